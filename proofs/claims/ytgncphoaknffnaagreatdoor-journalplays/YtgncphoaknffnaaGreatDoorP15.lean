/- Journals: Add and Flush. Journals: awake. Journals: dead disks, dead journals, none. -/
import Derived.Test.YtgncphoaknffnaaGreatDoorP14
namespace Go.Proofs.YtgncphoaknffnaaGreatDoor
open Go.RowKit
open Go.Deep
open Go.Lib
set_option linter.unusedVariables false
section
set_option maxRecDepth 10000
set_option maxHeartbeats 2000000
variable {K : Nat → Prop} {B w : World} {gj gd : Nat} {J : Jr} {x : StD} {T : Nat → Prop} {v : Value}
theorem bsS (w : World) (s : ByteArray) : (Instr.buildSlice 30 1 #[(0, .string s)]).run Tryz.prog w = .ok (.slice (some ⟨w.heap.size, 0, none⟩) 1 1) (w.alloc (.cells #[.string s] 9)) := by kernel_rfl
theorem wpAppS {w : World} {ops : Array Oper} {rest : List Oper} {o : Oper} {a : Act} {Q : Exit → Act → World → Prop} (hgd : o.guard = none) (sl y : Operand)
    (ho : o.op = .call { callee := .builtin .append, args := #[sl, y], argTypes := #[30, 30] }) (vs : Value) (L : List ByteArray) (hx : a.eval sl = vs) (hown : OX KS w vs L) (ad : Addr) (m c : Nat) (N : List ByteArray)
    (hy : a.eval y = .slice (some ad) m c) (hm : m = N.length) (hnews : ∀ j u, (flatE KS N)[j]? = some u → w.cell? (ad.add j) = some u) (hsm : (L.length + m) * 16 ≤ 140737488355328) (h63 : L.length + m ≤ maxLen)
    (h : ∀ v' w', OX KS w' v' (L ++ N) → Onto w w' vs v' → wpList Tryz.prog ops Q rest (a.put o.dst v') w') : wpList Tryz.prog ops Q (o :: rest) a w := by
  obtain ⟨v', w', hr, h1, h2⟩ := KS.app (ty := o.type) hown ad m c N hm hnews hsm h63
  refine wpList_plain hgd fun K hK => ?_
  unfold Oper.wp execOp
  simp only [ho, resolve, invoke, builtin, Sem.run_bind, Sem.run_pure, Result.andThen_ok, List.map_toArray, List.map_cons, List.map_nil, hx, hy]
  rw [show (Builtin.append_ #[30, 30] o.type #[vs, .slice (some ad) m c]).run Tryz.prog w = .ok v' w' from hr]
  exact hK _ _ (h v' w' h1 h2)
theorem JB.app {W : World} {v' : Value} {R : List ByteArray} (h : JB K B w gj gd J x T v) (on : Onto w W v v') (ho : OX KS W v' R) : W.heap[gj]? = some (.cells (J.cells gd v) 58 (0, 0)) ∧ JB K B (W.setCell ⟨gj, 3, none⟩ v') gj gd { J with recs := R } x T v' := by
  have g := on.grown
  have blk : ∀ k, k < w.heap.size → v.ownBlock ≠ some k → W.heap[k]? = w.heap[k]? := fun k hk hn => g.block k hk (fun e => hn e.symm)
  have hrow : W.heap[gj]? = some (.cells (J.cells gd v) 58 (0, 0)) := (blk gj h.lt fun e => (h.vfar gj e).2.2 rfl).trans h.row
  have hs : (W.setCell ⟨gj, 3, none⟩ v').heap.size = W.heap.size := by simp [World.setCell]
  have hb : ∀ k, k ≠ gj → (W.setCell ⟨gj, 3, none⟩ v').heap[k]? = W.heap[k]? := fun k hk => Below.heap_setCell _ _ _ _ hk
  have h1 := g.size
  have h2 := h.bel.size
  have hv : ∀ k, v'.ownBlock = some k → (K k ∨ B.heap.size ≤ k) ∧ ¬ T k ∧ k ≠ gj := fun k hk => by
    rcases on.lies with e | ⟨c, e, hc⟩
    · exact h.vfar k (by rw [← e]; exact hk)
    · rw [e] at hk
      cases hk
      refine ⟨.inr (by omega), fun e => ?_, ?_⟩
      · have := h.dk.lt _ e
        omega
      · have := h.lt
        omega
  refine ⟨hrow, ⟨?_, ?_, h.far, ?_, (.inl (ho.of_block fun k hk => hb k (hv k hk).2.2)), h.jfar, h.jT, hv⟩⟩
  · exact h.dk.frame (by omega) fun k hk => (hb k fun e => h.jT (e ▸ hk)).trans (blk k (h.dk.lt k hk) fun e => (h.vfar k e).2.1 hk)
  · refine (h.bel.far (S := fun k => v.ownBlock = some k) ⟨g.os, g.tape, g.output, g.size, fun k hk hn => blk k hk hn⟩ fun k hk => (h.vfar k hk).1).far (Fr.setCell (S := fun k => k = gj) W (p := ⟨gj, 3, none⟩) rfl v') (fun k hk => hk ▸ h.jfar)
  · exact heap_setCell_same W gj 3 _ _ v' hrow
/-- What Add does to the disk. -/
def adC (J : Jr) (k : Nat) (s : ByteArray) : Ch := wrC J.nm k (txt (recL J.ep J.recs.length s.data.toList))
theorem add_dead (h : JB K B w gj gd J x T v) (s : ByteArray) (hd : J.dead = true) : Calls Tryz.prog 18 #[.pointer (some ⟨gj, 0, none⟩), .string s] w fun e w' => e = .returned (.int .i64 7) ∧ w' = w := by
  have HD := hide (deadJ_any h)
  rw [hd] at HD
  clear h hd
  go_enter Tryz.func18, Tryz.ntmps18
  go_wp2_with (go_at_call 30; refine HD.out.mono ?_; rintro e w1 ⟨rfl, hw⟩; subst w1)
  go_ret
  exact ⟨rfl, rfl⟩
theorem add_nil (s : ByteArray) (w : World) : Calls Tryz.prog 18 #[.pointer none, .string s] w fun e w' => e = .returned (.int .i64 7) ∧ w' = w := by
  have HD := hide (deadJ_nil w)
  go_enter Tryz.func18, Tryz.ntmps18
  go_wp2_with (go_at_call 30; refine HD.out.mono ?_; rintro e w1 ⟨rfl, hw⟩; subst w1)
  go_ret
  exact ⟨rfl, rfl⟩
theorem flush_nil (w : World) : Calls Tryz.prog 21 #[.pointer none] w fun e w' => e = .returned (.int .i64 7) ∧ w' = w := by
  have HD := hide (deadJ_nil w)
  go_enter Tryz.func21, Tryz.ntmps21
  go_wp2_with (go_at_call 30; refine HD.out.mono ?_; rintro e w1 ⟨rfl, hw⟩; subst w1)
  go_ret
  exact ⟨rfl, rfl⟩
theorem flush_ok (h : JB K B w gj gd J x T v) (hd : J.dead = false) (hV : Vd x) (hp : x.plan = []) (hdd : x.dead = false) : Calls Tryz.prog 21 #[.pointer (some ⟨gj, 0, none⟩)] w fun e w' => e = .returned (.int .i64 0) ∧ ∃ T', JB K B w' gj gd J (syC x) T' v := by
  have HD := hide (deadJ_any h)
  have HS := hide (sync_ok gd x T w h.dk hV hp hdd)
  have HH := hide fun W T' (j : JB K B W gj gd J (syC x) T' v) => heedJ_any j 0
  have c0 := h.c0
  have H0 := hide h
  have HJ : Hid ({ J with dead := decide ((0 : Int) = 7) } = J) := by
    show _ = _
    rw [show decide ((0 : Int) = 7) = J.dead from hd.symm]
  rw [hd] at HD
  clear h hd hV hp hdd
  go_enter Tryz.func21, Tryz.ntmps21
  go_wp2_with (first | (go_at_call 30; refine HD.out.mono ?_; rintro e w1 ⟨rfl, hw⟩; subst w1) | (go_at_call 39; refine HS.out.mono ?_; rintro e w1 ⟨rfl, h1⟩; have J1 := hide (H0.out.disk h1); clear h1) | (go_at_call 44; refine (HH.out _ _ J1.out).mono ?_; rintro e w2 ⟨rfl, h2⟩; rw [HJ.out] at h2; have J2 := hide h2; clear h2))
  go_ret
  exact ⟨rfl, _, J2.out⟩
theorem add_ok (h : JB K B w gj gd J x T v) (hK : KB K B) (s : ByteArray) (hd : J.dead = false) (hs : s.size ≤ 65536) (he : U64 J.ep) (hc : J.recs.length ≤ 100000) (hV : Vd x) (hp : x.plan = []) (hr : rdy x.dead [J.nm] = 0) (hlen : (x.now.at (ls J.nm)).length + (16 + s.size) ≤ 16777216) (hroom : (x.now.get (ls J.nm)).isSome = true) (hmany : x.loose.length < 10000) (hmade : x.made < 1000000) : Calls Tryz.prog 18 #[.pointer (some ⟨gj, 0, none⟩), .string s] w fun e w' => e = .returned (.int .i64 0) ∧ ∃ T' v', JB K B w' gj gd { J with recs := J.recs ++ [s] } (mkC x (adC J (x.now.at (ls J.nm)).length s)) T' v' := by
  have HD := hide (deadJ_any h)
  have HR := hide fun W (hB : Below w.heap.size w W) => recJ_any J.ep J.recs.length he (by unfold U64; omega) s hs W ((hK.at_ h.bel).next hB)
  have hsl : s.data.toList.length = s.size := by simp
  have HA := hide fun W (hB : Below w.heap.size w W) => append_ok gd x T J.nm (txt (recL J.ep J.recs.length s.data.toList)) W (h.dk.below hB) hV hp hr (by rw [txtJ_size, recL_len, hsl]; exact hlen) (.inl hroom) hmany hmade
  have HH := hide fun W T' (j : JB K B W gj gd J (mkC x (adC J (x.now.at (ls J.nm)).length s)) T' v) => heedJ_any j 0
  have HJ : Hid ({ J with dead := decide ((0 : Int) = 7) } = J) := by
    show _ = _
    rw [show decide ((0 : Int) = 7) = J.dead from hd.symm]
  have HL := hide h.dk.lt
  obtain ⟨ao, cc, rfl⟩ := h.own.form
  have HC : Hid (∀ W, Below w.heap.size w W → W.cell? ⟨gj, 2, none⟩ = some (.int .u64 (J.ep : Int)) ∧ W.cell? ⟨gj, 3, none⟩ = some (.slice ao J.recs.length cc)) := fun W hb => ⟨(h.next hb).c2, (h.next hb).c3⟩
  have H0 := hide h
  have e1 : IntKind.u64.wrap (J.recs.length : Int) = (J.recs.length : Int) := wrapu _ (by omega) (by omega)
  have HLN := hide hc
  rw [hd] at HD
  unfold adC at HH ⊢
  clear h hd hV hp hr hlen hroom hmany hmade hsl hs he hc
  go_enter Tryz.func18, Tryz.ntmps18
  go_upto_region 3 with (go_at_call 30; refine HD.out.mono ?_; rintro e w1 ⟨rfl, hw⟩; subst w1)
  go_region_held3 (fun w' => Below w.heap.size w w' ∧ w'.cell? ⟨gj, 2, none⟩ = some (.int .u64 (J.ep : Int)) ∧ w'.cell? ⟨gj, 3, none⟩ = some (.slice ao J.recs.length cc)) (first | assumption | exact (fun hb => ⟨hb, HC.out _ hb⟩) ((Below.refl _ _).drew) | exact (fun hb => ⟨hb, HC.out _ hb⟩) (below_next (And.left (by assumption)) be)) (first | (go_at_call 43; refine (HR.out _ (And.left (by assumption))).mono ?_; rintro e w1 ⟨rfl, be⟩))
  have B1 : Hid (Below w.heap.size w w1) := And.left (by assumption)
  have J1 := hide (H0.out.next B1.out)
  rename_i hHeld
  clear be HC HR HD hHeld
  go_upto_region 6 with fail
  have c0 := J1.out.c0
  have c1 := J1.out.c1
  refine wp_region_held_drew (S := fun W => W.cell? ⟨gj, 0, none⟩ = some (.pointer (some ⟨gd, 0, none⟩)) ∧ W.cell? ⟨gj, 1, none⟩ = some (.string J.nm)) (by kernel_rfl) ⟨c0, c1⟩ (fun hH => ?_)
  refine wpAnyH_take (i := 0) (v := .pointer (some ⟨gj, 0, none⟩)) rfl (by kernel_rfl) (by kernel_rfl) (by kernel_rfl) (fun _ _ _ h => h) (yl_move (by rfl) _ (by rfl) _ (by rfl)) hH ?_
  change wpAnyH _ _ _ _ _ _ _ (Act.put _ (some 28) _) _
  simp only [Act.put, List.setIfInBounds_toArray, List.set_cons_zero, List.set_cons_succ]
  refine wpAnyH_take (i := 1) (v := .pointer (some ⟨gj, 0, none⟩)) rfl (by kernel_rfl) (by kernel_rfl) (by kernel_rfl) (fun _ _ _ h => h) (yl_move (by rfl) _ (by rfl) _ (by rfl)) hH ?_
  change wpAnyH _ _ _ _ _ _ _ (Act.put _ (some 29) _) _
  simp only [Act.put, List.setIfInBounds_toArray, List.set_cons_zero, List.set_cons_succ]
  refine wpAnyH_take (i := 2) (v := .pointer (some ⟨gj, 0, none⟩)) rfl (by kernel_rfl) (by kernel_rfl) (by kernel_rfl) (fun _ _ _ h => h) (.inl ⟨by rfl, fun W _ => by go_simp⟩) hH ?_
  change wpAnyH _ _ _ _ _ _ _ (Act.put _ (some 30) _) _
  simp only [Act.put, List.setIfInBounds_toArray, List.set_cons_zero, List.set_cons_succ]
  refine wpAnyH_take (i := 3) (v := .pointer (some ⟨gj, 0, none⟩)) rfl (by kernel_rfl) (by kernel_rfl) (by kernel_rfl) (fun _ _ _ h => h) (.inl ⟨by rfl, fun W _ => by go_simp⟩) hH ?_
  change wpAnyH _ _ _ _ _ _ _ (Act.put _ (some 31) _) _
  simp only [Act.put, List.setIfInBounds_toArray, List.set_cons_zero, List.set_cons_succ]
  refine wpAnyH_take (i := 4) (v := .pointer (some ⟨gd, 0, none⟩)) rfl (by kernel_rfl) (by kernel_rfl) (by kernel_rfl) (fun _ _ _ h => h) (.inl ⟨by rfl, fun W hS => by have c4 := hS.1; go_simp⟩) hH ?_
  change wpAnyH _ _ _ _ _ _ _ (Act.put _ (some 32) _) _
  simp only [Act.put, List.setIfInBounds_toArray, List.set_cons_zero, List.set_cons_succ]
  refine wpAnyH_take (i := 5) (v := .pointer (some ⟨gj, 0, none⟩)) rfl (by kernel_rfl) (by kernel_rfl) (by kernel_rfl) (fun _ _ _ h => h) (yl_move (by rfl) _ (by rfl) _ (by rfl)) hH ?_
  change wpAnyH _ _ _ _ _ _ _ (Act.put _ (some 33) _) _
  simp only [Act.put, List.setIfInBounds_toArray, List.set_cons_zero, List.set_cons_succ]
  refine wpAnyH_take (i := 6) (v := .pointer (some ⟨gj, 0, none⟩)) rfl (by kernel_rfl) (by kernel_rfl) (by kernel_rfl) (fun _ _ _ h => h) (.inl ⟨by rfl, fun W _ => by go_simp⟩) hH ?_
  change wpAnyH _ _ _ _ _ _ _ (Act.put _ (some 34) _) _
  simp only [Act.put, List.setIfInBounds_toArray, List.set_cons_zero, List.set_cons_succ]
  refine wpAnyH_take (i := 7) (v := .pointer (some ⟨gj, 1, none⟩)) rfl (by kernel_rfl) (by kernel_rfl) (by kernel_rfl) (fun _ _ _ h => h) (.inl ⟨by rfl, fun W _ => by go_simp⟩) hH ?_
  change wpAnyH _ _ _ _ _ _ _ (Act.put _ (some 35) _) _
  simp only [Act.put, List.setIfInBounds_toArray, List.set_cons_zero, List.set_cons_succ]
  refine wpAnyH_take (i := 8) (v := .string J.nm) rfl (by kernel_rfl) (by kernel_rfl) (by kernel_rfl) (fun _ _ _ h => h) (.inl ⟨by rfl, fun W hS => by have c4 := hS.2; go_simp⟩) hH ?_
  change wpAnyH _ _ _ _ _ _ _ (Act.put _ (some 36) _) _
  simp only [Act.put, List.setIfInBounds_toArray, List.set_cons_zero, List.set_cons_succ]
  refine wpAnyH_take (i := 9) (v := .string (txt (recL J.ep J.recs.length s.data.toList))) rfl (by kernel_rfl) (by kernel_rfl) (by kernel_rfl) (fun _ _ _ h => h) (yl_move (by rfl) _ (by rfl) _ (by rfl)) hH ?_
  change wpAnyH _ _ _ _ _ _ _ (Act.put _ (some 37) _) _
  simp only [Act.put, List.setIfInBounds_toArray, List.set_cons_zero, List.set_cons_succ]
  refine wpAnyH_ready (rs := [10]) (by kernel_rfl) (by simp) (AllReadyH.cons rfl (fun K1 hK1 => ?_) AllReadyH.nil)
  go_simp
  refine (HA.out _ B1.out.drew).mono ?_
  rintro e w5 ⟨rfl, hd5, hf5⟩
  have FIN := hide (dk_grow (B1.out.drew) HL.out hd5 hf5)
  clear hd5 hf5
  have J5 := hide (H0.out.disk FIN.out)
  clear FIN
  refine hK1.out _ _ ⟨J5.out.c0, J5.out.c1⟩ (fun hH => ?_)
  clear hK1
  refine wpAnyH_ready (rs := [11]) (by kernel_rfl) (by simp) (AllReadyH.cons rfl (fun K1 hK1 => ?_) AllReadyH.nil)
  go_simp
  refine (HH.out _ _ J5.out).mono ?_
  rintro e w6 ⟨rfl, j6⟩
  rw [HJ.out] at j6
  have J6 := hide j6
  clear j6
  refine hK1.out _ _ ⟨J6.out.c0, J6.out.c1⟩ (fun hH => ?_)
  clear hK1 J5
  refine wpAnyH_take (i := 12) (v := .int .i64 0) rfl (by kernel_rfl) (by kernel_rfl) (by kernel_rfl) (fun _ _ _ h => h) (.inl ⟨by rfl, fun W _ => by go_simp⟩) hH ?_
  change wpAnyH _ _ _ _ _ _ _ (Act.put _ (some 7) _) _
  simp only [Act.put, List.setIfInBounds_toArray, List.set_cons_zero, List.set_cons_succ]
  refine wpAnyH_done (by kernel_rfl) ?_ _
  have a3 := J6.out.c3
  have f3 := J6.out.fz 3
  have hbs := bsS w6 s
  clear J1 c0 c1 B1 HA HH H0
  have JA := hide (J6.out.next (show Below w6.heap.size w6 (w6.alloc (.cells #[.string s] 9)) from (Below.refl _ _).alloc (Nat.le_refl _) _))
  go_wp2_with (at_builtin; refine wpAppR rfl _ _ rfl (.slice ao J.recs.length cc) J.recs rfl JA.out.own ⟨_, 0, none⟩ 1 1 [s] rfl rfl (by decide) (one_newX (E := KS) w6 s) (by have := HLN.out; omega) (by have := HLN.out; unfold maxLen; omega) ?_; intro v' W3 ho3 on3; obtain ⟨ao', cc', rfl⟩ := ho3.form; have JJ := hide (JA.out.app on3 ho3); have q3 : W3.cell? ⟨gj, 3, none⟩ = some (.slice ao J.recs.length cc) := (by rw [cell_of_row _ _ 3 _ _ _ JJ.out.1]; rfl); have q4 := frozen_of_row _ _ 3 _ _ JJ.out.1; clear ho3 on3 a3 f3)
  go_ret
  have hj := JJ.out.2
  rw [show (J.recs ++ [s]).length = J.recs.length + 1 by simp] at hj
  exact ⟨rfl, _, _, hj⟩
end
end Go.Proofs.YtgncphoaknffnaaGreatDoor
namespace Go.Proofs.YtgncphoaknffnaaGreatDoor
open Go.RowKit
open Go.Deep
open Go.Lib
set_option linter.unusedVariables false
theorem bg_now (x : StD) (nm : ByteArray) : (mkC x (bgC nm)).now = x.now.put (ls nm) (wr8 (x.now.at (ls nm)) 0 (headL 0)) := rfl
theorem bg_at {x : StD} {nm : ByteArray} (h : x.now.at (ls nm) = []) : (mkC x (bgC nm)).now.at (ls nm) = headL 0 := by
  rw [bg_now, h]
  unfold FS.at
  rw [FS.put_get, if_pos rfl]
  simp [wr8]
theorem bg_get (x : StD) (nm : ByteArray) : ((mkC x (bgC nm)).now.get (ls nm)).isSome = true := by
  rw [bg_now, FS.put_get, if_pos rfl]
  rfl
/-- A fresh disk's journal. -/
def xo (nm : ByteArray) : StD := syC (mkC x0 (bgC nm))
theorem fnd0 {nm : ByteArray} (h : isName (ls nm) = true) : fnd x0 nm = 2 := by
  unfold fnd rdy x0
  simp [h, FS.none]
theorem name_app {a b : List UInt8} (ha : isName a = true) (hb : b.all ofName = true) (hl : a.length + b.length ≤ 32) : isName (a ++ b) = true := by
  unfold isName at *
  simp at ha hb ⊢
  exact ⟨⟨⟨ha.1.1, hb⟩, by omega⟩, by omega⟩
theorem aside_name {nm : ByteArray} (h : okJ nm = true) : isName (ls (asideN nm)) = true := by
  have h1 := okJ_size h
  have h2 := okJ_name h
  have e : ls (asideN nm) = ls nm ++ [46, 116, 109, 112] := by
    unfold asideN ls
    simp
  rw [e]
  refine name_app h2 (by decide +kernel) ?_
  have : (ls nm).length = nm.size := by simp
  simp only [List.length_cons, List.length_nil]
  omega
theorem vd_xo {nm : ByteArray} (h : okJ nm = true) : Vd (xo nm) := (Vd.x0.mkC (bg_ok Vd.x0 (okJ_name h) (by decide)) (by decide) (by decide)).syC
section
set_option maxRecDepth 10000
set_option maxHeartbeats 2000000
theorem open_x0 {K : Nat → Prop} {B w : World} {gd : Nat} {T : Nat → Prop} (h : DBk K B w gd x0 T) (nm : ByteArray) (hK : KB K B) (hn : okJ nm = true) : Calls Tryz.prog 6 #[.pointer (some ⟨gd, 0, none⟩), .string nm] w fun e w' => ∃ gj T', e = .returned (.tuple #[.pointer (some ⟨gj, 0, none⟩), .int .i64 0]) ∧ JB K B w' gj gd ⟨nm, 0, [], 0, false⟩ (xo nm) T' (.slice none 0 0) :=
  open_fresh h nm hK hn (fnd0 (okJ_name hn)) (fnd0 (aside_name hn)) Vd.x0 rfl rfl (by decide) (by decide) (by decide)
theorem db_new {w w1 : World} (hd : DK w1 w.heap.size ⟨FS.none, FS.none, [], 0, [], false⟩ (fun g => g = w.heap.size)) (hb : Below w.heap.size w w1) : DBk K0 w w1 w.heap.size x0 (fun g => g = w.heap.size) := ⟨hd, Below.k0 hb, fun g hg => .inr (Nat.le_of_eq hg.symm)⟩
def nmj : ByteArray := ⟨#[106]⟩
def abcJ : ByteArray := ⟨#[97, 98, 99]⟩
theorem okj : okJ nmj = true := by decide +kernel
def xp : StD := mkC (xo nmj) (adC ⟨nmj, 0, [], 0, false⟩ 20 abcJ)
theorem at_xo {nm : ByteArray} : (xo nm).now.at (ls nm) = headL 0 := bg_at rfl
theorem awakeJ_any (w : World) (hK : Kg w) : Calls Tryz.prog 7 #[] w fun e w' => e = .returned (.bool true) ∧ Below w.heap.size w w' := by
  have HN := hide (newD_any w)
  have HO := hide fun W T (h : DBk K0 w W w.heap.size x0 T) => open_x0 h nmj ⟨hK, id⟩ okj
  have hl : ((xo nmj).now.at (ls nmj)).length = 20 := by rw [at_xo, headL_len]
  have HA : Hid (∀ gj W T, JB K0 w W gj w.heap.size ⟨nmj, 0, [], 0, false⟩ (xo nmj) T (.slice none 0 0) → Calls Tryz.prog 18 #[.pointer (some ⟨gj, 0, none⟩), .string abcJ] W fun e w' => e = .returned (.int .i64 0) ∧ ∃ T' v', JB K0 w w' gj w.heap.size ⟨nmj, 0, [abcJ], 0, false⟩ xp T' v') := fun gj W T h => by
    have := add_ok h ⟨hK, id⟩ abcJ rfl (by decide) (by unfold U64; decide) (by decide) (vd_xo okj) rfl (rdyJ rfl okj) (by show ((xo nmj).now.at (ls nmj)).length + _ ≤ _; rw [hl]; decide) (bg_get _ _) (by decide) (by decide)
    rw [show (⟨nmj, 0, [], 0, false⟩ : Jr).nm = nmj from rfl, hl] at this
    exact this
  have hvp : Vd xp := (vd_xo okj).mkC (wr_ok (vd_xo okj).bd (okJ_name okj) (by rw [hl]; exact Nat.le_refl _) (by rw [txtJ_size, recL_len]; decide) (.inl (bg_get _ _))) (by decide) (by decide)
  have HG := hide fun gj W T v (h : JB K0 w W gj w.heap.size ⟨nmj, 0, [abcJ], 0, false⟩ xp T v) => getJ_any h 0 abcJ rfl
  have HL := hide fun gj W T v (h : JB K0 w W gj w.heap.size ⟨nmj, 0, [abcJ], 0, false⟩ xp T v) => lenJ_any h
  have HF := hide fun gj W T v (h : JB K0 w W gj w.heap.size ⟨nmj, 0, [abcJ], 0, false⟩ xp T v) => flush_ok h rfl hvp rfl rfl
  clear hl hvp hK
  unfold nmj at HO
  unfold abcJ at HA HG HL HF
  go_enter Tryz.func7, Tryz.ntmps7
  go_wp2_with (first | (go_at_call 5; refine HN.out.mono ?_; rintro e w1 ⟨rfl, d1, b1⟩; have D1 := hide (db_new d1 b1); clear d1 b1) | (go_at_call 6; refine (HO.out _ _ D1.out).mono ?_; rintro e w2 ⟨gj, T2, rfl, j2⟩; have J2 := hide j2; clear j2) | (go_at_call 18; refine (HA.out _ _ _ J2.out).mono ?_; rintro e w3 ⟨rfl, T3, v3, j3⟩; have J3 := hide j3; clear j3) | (go_at_call 19; refine (HG.out _ _ _ _ J3.out).mono ?_; rintro e w4 ⟨rfl, hw⟩; subst w4) | (go_at_call 20; refine (HL.out _ _ _ _ J3.out).mono ?_; rintro e w4 ⟨rfl, hw⟩; subst w4) | (go_at_call 21; refine (HF.out _ _ _ _ J3.out).mono ?_; rintro e w5 ⟨rfl, T5, j5⟩; have J5 := hide j5; clear j5))
  go_ret
  exact ⟨rfl, J5.out.bel.k0⟩
end
end Go.Proofs.YtgncphoaknffnaaGreatDoor
namespace Go.Proofs.YtgncphoaknffnaaGreatDoor
open Go.RowKit
open Go.Deep
open Go.Lib
set_option linter.unusedVariables false
theorem fnd_dead {x : StD} (h : x.dead = true) (nm : ByteArray) : fnd x nm = 7 := by
  unfold fnd rdy
  rw [h]
  rfl
theorem wrE_dead {x : StD} (h : x.dead = true) (nm : ByteArray) (k : Int) (s : ByteArray) : wrE x nm k s = 7 := by
  have : rdy x.dead [nm] = 7 := by
    rw [h]
    rfl
  unfold wrE
  rw [this]
  rfl
section
set_option maxRecDepth 10000
set_option maxHeartbeats 2000000
variable {K : Nat → Prop} {B w : World} {gj gd : Nat} {J : Jr} {x : StD} {T : Nat → Prop} {v : Value}
theorem DK.c5 (h : DK w gd x T) : w.cell? ⟨gd, 5, none⟩ = some (.bool x.dead) := by
  obtain ⟨S1, S2, mn, ms, vo, vp, h⟩ := h
  exact h.cell 5 (by decide)
theorem sync_dead (h : DK w gd x T) (hd : x.dead = true) : Calls Tryz.prog 39 #[.pointer (some ⟨gd, 0, none⟩)] w fun e w' => e = .returned (.int .i64 7) ∧ w' = w := by
  have c5 := h.c5
  rw [hd] at c5
  have HD := hide (dead_cell gd true w c5)
  clear h c5
  go_enter Tryz.func39, Tryz.ntmps39
  go_wp2_with (go_at_call 11; refine HD.out.mono ?_; rintro e w1 ⟨rfl, hw⟩; subst w1)
  go_ret
  exact ⟨rfl, rfl⟩
theorem flush_dead (h : JB K B w gj gd J x T v) (hd : J.dead = true) : Calls Tryz.prog 21 #[.pointer (some ⟨gj, 0, none⟩)] w fun e w' => e = .returned (.int .i64 7) ∧ w' = w := by
  have HD := hide (deadJ_any h)
  rw [hd] at HD
  clear h hd
  go_enter Tryz.func21, Tryz.ntmps21
  go_wp2_with (go_at_call 30; refine HD.out.mono ?_; rintro e w1 ⟨rfl, hw⟩; subst w1)
  go_ret
  exact ⟨rfl, rfl⟩
theorem renew_dead (h : JB K B w gj gd J x T v) (hd : J.dead = true) (u : Value) : Calls Tryz.prog 22 #[.pointer (some ⟨gj, 0, none⟩), u] w fun e w' => e = .returned (.int .i64 7) ∧ w' = w := by
  have HD := hide (deadJ_any h)
  rw [hd] at HD
  clear h hd
  go_enter Tryz.func22, Tryz.ntmps22
  go_wp2_with (go_at_call 30; refine HD.out.mono ?_; rintro e w1 ⟨rfl, hw⟩; subst w1)
  go_ret
  exact ⟨rfl, rfl⟩
theorem flush_off (h : JB K B w gj gd J x T v) (hd : J.dead = false) (hdd : x.dead = true) : Calls Tryz.prog 21 #[.pointer (some ⟨gj, 0, none⟩)] w fun e w' => e = .returned (.int .i64 7) ∧ JB K B w' gj gd { J with dead := true } x T v := by
  have HD := hide (deadJ_any h)
  have HS := hide (sync_dead h.dk hdd)
  have HH := hide (heedJ_any h 7)
  have c0 := h.c0
  rw [hd] at HD
  clear h hd hdd
  go_enter Tryz.func21, Tryz.ntmps21
  go_wp2_with (first | (go_at_call 30; refine HD.out.mono ?_; rintro e w1 ⟨rfl, hw⟩; subst w1) | (go_at_call 39; refine HS.out.mono ?_; rintro e w1 ⟨rfl, hw⟩; subst w1) | (go_at_call 44; refine HH.out.mono ?_; rintro e w2 ⟨rfl, h2⟩; have J2 := hide h2; clear h2))
  go_ret
  exact ⟨rfl, J2.out⟩
theorem add_long (h : JB K B w gj gd J x T v) (s : ByteArray) (hd : J.dead = false) (hl : 65536 < s.size) (hs : s.size ≤ maxLen) (hc : J.recs.length ≤ 100000) : Calls Tryz.prog 18 #[.pointer (some ⟨gj, 0, none⟩), .string s] w fun e w' => e = .returned (.int .i64 121) ∧ JB K B w' gj gd J x T v := by
  have HD := hide (deadJ_any h)
  have HR := hide fun W => recJ_long J.ep J.recs.length s hl hs W
  obtain ⟨ao, cc, rfl⟩ := h.own.form
  have HC : Hid (∀ W, Below w.heap.size w W → W.cell? ⟨gj, 2, none⟩ = some (.int .u64 (J.ep : Int)) ∧ W.cell? ⟨gj, 3, none⟩ = some (.slice ao J.recs.length cc)) := fun W hb => ⟨(h.next hb).c2, (h.next hb).c3⟩
  have H0 := hide h
  have e1 : IntKind.u64.wrap (J.recs.length : Int) = (J.recs.length : Int) := wrapu _ (by omega) (by omega)
  rw [hd] at HD
  clear h hd hs hc hl
  go_enter Tryz.func18, Tryz.ntmps18
  go_upto_region 3 with (go_at_call 30; refine HD.out.mono ?_; rintro e w1 ⟨rfl, hw⟩; subst w1)
  go_region_held3 (fun w' => Below w.heap.size w w' ∧ w'.cell? ⟨gj, 2, none⟩ = some (.int .u64 (J.ep : Int)) ∧ w'.cell? ⟨gj, 3, none⟩ = some (.slice ao J.recs.length cc)) (first | assumption | exact (fun hb => ⟨hb, HC.out _ hb⟩) ((Below.refl _ _).drew)) (first | (go_at_call 43; refine (HR.out _).mono ?_; rintro e w1 ⟨rfl, hw⟩; subst w1))
  go_wp2
  go_ret
  exact ⟨rfl, H0.out.next (Below.refl _ _).drew⟩
theorem add_off (h : JB K B w gj gd J x T v) (hK : KB K B) (s : ByteArray) (hd : J.dead = false) (hdd : x.dead = true) (hb : Bd x.now) (hnm : J.nm.size ≤ maxLen) (hs : s.size ≤ 65536) (he : U64 J.ep) (hc : J.recs.length ≤ 100000) : Calls Tryz.prog 18 #[.pointer (some ⟨gj, 0, none⟩), .string s] w fun e w' => e = .returned (.int .i64 7) ∧ JB K B w' gj gd { J with dead := true } x T v := by
  have HD := hide (deadJ_any h)
  have HR := hide fun W (hB : Below w.heap.size w W) => recJ_any J.ep J.recs.length he (by unfold U64; omega) s hs W ((hK.at_ h.bel).next hB)
  have hsl : s.data.toList.length = s.size := by simp
  have HA : Hid (∀ W, Below w.heap.size w W → Calls Tryz.prog 45 #[.pointer (some ⟨gd, 0, none⟩), .string J.nm, .string (txt (recL J.ep J.recs.length s.data.toList))] W fun e w' => e = .returned (.int .i64 7) ∧ Below W.heap.size W w') := fun W hB => by
    have := append_err gd x T J.nm (txt (recL J.ep J.recs.length s.data.toList)) W (h.dk.below hB) hb hnm (by rw [txtJ_size, recL_len, hsl]; unfold maxLen; omega) (by rw [wrE_dead hdd]; decide)
    rw [wrE_dead hdd] at this
    exact this
  have HH := hide fun W (j : JB K B W gj gd J x T v) => heedJ_any j 7
  obtain ⟨ao, cc, rfl⟩ := h.own.form
  have HC : Hid (∀ W, Below w.heap.size w W → W.cell? ⟨gj, 2, none⟩ = some (.int .u64 (J.ep : Int)) ∧ W.cell? ⟨gj, 3, none⟩ = some (.slice ao J.recs.length cc)) := fun W hb => ⟨(h.next hb).c2, (h.next hb).c3⟩
  have H0 := hide h
  have e1 : IntKind.u64.wrap (J.recs.length : Int) = (J.recs.length : Int) := wrapu _ (by omega) (by omega)
  rw [hd] at HD
  clear h hd hsl hs he hc hb hnm
  go_enter Tryz.func18, Tryz.ntmps18
  go_upto_region 3 with (go_at_call 30; refine HD.out.mono ?_; rintro e w1 ⟨rfl, hw⟩; subst w1)
  go_region_held3 (fun w' => Below w.heap.size w w' ∧ w'.cell? ⟨gj, 2, none⟩ = some (.int .u64 (J.ep : Int)) ∧ w'.cell? ⟨gj, 3, none⟩ = some (.slice ao J.recs.length cc)) (first | assumption | exact (fun hb => ⟨hb, HC.out _ hb⟩) ((Below.refl _ _).drew) | exact (fun hb => ⟨hb, HC.out _ hb⟩) (below_next (And.left (by assumption)) be)) (first | (go_at_call 43; refine (HR.out _ (And.left (by assumption))).mono ?_; rintro e w1 ⟨rfl, be⟩))
  have B1 : Hid (Below w.heap.size w w1) := And.left (by assumption)
  have J1 := hide (H0.out.next B1.out)
  rename_i hHeld
  clear be HC HR HD hHeld
  go_upto_region 6 with fail
  have c0 := J1.out.c0
  have c1 := J1.out.c1
  refine wp_region_held_drew (S := fun W => W.cell? ⟨gj, 0, none⟩ = some (.pointer (some ⟨gd, 0, none⟩)) ∧ W.cell? ⟨gj, 1, none⟩ = some (.string J.nm)) (by kernel_rfl) ⟨c0, c1⟩ (fun hH => ?_)
  refine wpAnyH_take (i := 0) (v := .pointer (some ⟨gj, 0, none⟩)) rfl (by kernel_rfl) (by kernel_rfl) (by kernel_rfl) (fun _ _ _ h => h) (yl_move (by rfl) _ (by rfl) _ (by rfl)) hH ?_
  change wpAnyH _ _ _ _ _ _ _ (Act.put _ (some 28) _) _
  simp only [Act.put, List.setIfInBounds_toArray, List.set_cons_zero, List.set_cons_succ]
  refine wpAnyH_take (i := 1) (v := .pointer (some ⟨gj, 0, none⟩)) rfl (by kernel_rfl) (by kernel_rfl) (by kernel_rfl) (fun _ _ _ h => h) (yl_move (by rfl) _ (by rfl) _ (by rfl)) hH ?_
  change wpAnyH _ _ _ _ _ _ _ (Act.put _ (some 29) _) _
  simp only [Act.put, List.setIfInBounds_toArray, List.set_cons_zero, List.set_cons_succ]
  refine wpAnyH_take (i := 2) (v := .pointer (some ⟨gj, 0, none⟩)) rfl (by kernel_rfl) (by kernel_rfl) (by kernel_rfl) (fun _ _ _ h => h) (.inl ⟨by rfl, fun W _ => by go_simp⟩) hH ?_
  change wpAnyH _ _ _ _ _ _ _ (Act.put _ (some 30) _) _
  simp only [Act.put, List.setIfInBounds_toArray, List.set_cons_zero, List.set_cons_succ]
  refine wpAnyH_take (i := 3) (v := .pointer (some ⟨gj, 0, none⟩)) rfl (by kernel_rfl) (by kernel_rfl) (by kernel_rfl) (fun _ _ _ h => h) (.inl ⟨by rfl, fun W _ => by go_simp⟩) hH ?_
  change wpAnyH _ _ _ _ _ _ _ (Act.put _ (some 31) _) _
  simp only [Act.put, List.setIfInBounds_toArray, List.set_cons_zero, List.set_cons_succ]
  refine wpAnyH_take (i := 4) (v := .pointer (some ⟨gd, 0, none⟩)) rfl (by kernel_rfl) (by kernel_rfl) (by kernel_rfl) (fun _ _ _ h => h) (.inl ⟨by rfl, fun W hS => by have c4 := hS.1; go_simp⟩) hH ?_
  change wpAnyH _ _ _ _ _ _ _ (Act.put _ (some 32) _) _
  simp only [Act.put, List.setIfInBounds_toArray, List.set_cons_zero, List.set_cons_succ]
  refine wpAnyH_take (i := 5) (v := .pointer (some ⟨gj, 0, none⟩)) rfl (by kernel_rfl) (by kernel_rfl) (by kernel_rfl) (fun _ _ _ h => h) (yl_move (by rfl) _ (by rfl) _ (by rfl)) hH ?_
  change wpAnyH _ _ _ _ _ _ _ (Act.put _ (some 33) _) _
  simp only [Act.put, List.setIfInBounds_toArray, List.set_cons_zero, List.set_cons_succ]
  refine wpAnyH_take (i := 6) (v := .pointer (some ⟨gj, 0, none⟩)) rfl (by kernel_rfl) (by kernel_rfl) (by kernel_rfl) (fun _ _ _ h => h) (.inl ⟨by rfl, fun W _ => by go_simp⟩) hH ?_
  change wpAnyH _ _ _ _ _ _ _ (Act.put _ (some 34) _) _
  simp only [Act.put, List.setIfInBounds_toArray, List.set_cons_zero, List.set_cons_succ]
  refine wpAnyH_take (i := 7) (v := .pointer (some ⟨gj, 1, none⟩)) rfl (by kernel_rfl) (by kernel_rfl) (by kernel_rfl) (fun _ _ _ h => h) (.inl ⟨by rfl, fun W _ => by go_simp⟩) hH ?_
  change wpAnyH _ _ _ _ _ _ _ (Act.put _ (some 35) _) _
  simp only [Act.put, List.setIfInBounds_toArray, List.set_cons_zero, List.set_cons_succ]
  refine wpAnyH_take (i := 8) (v := .string J.nm) rfl (by kernel_rfl) (by kernel_rfl) (by kernel_rfl) (fun _ _ _ h => h) (.inl ⟨by rfl, fun W hS => by have c4 := hS.2; go_simp⟩) hH ?_
  change wpAnyH _ _ _ _ _ _ _ (Act.put _ (some 36) _) _
  simp only [Act.put, List.setIfInBounds_toArray, List.set_cons_zero, List.set_cons_succ]
  refine wpAnyH_take (i := 9) (v := .string (txt (recL J.ep J.recs.length s.data.toList))) rfl (by kernel_rfl) (by kernel_rfl) (by kernel_rfl) (fun _ _ _ h => h) (yl_move (by rfl) _ (by rfl) _ (by rfl)) hH ?_
  change wpAnyH _ _ _ _ _ _ _ (Act.put _ (some 37) _) _
  simp only [Act.put, List.setIfInBounds_toArray, List.set_cons_zero, List.set_cons_succ]
  refine wpAnyH_ready (rs := [10]) (by kernel_rfl) (by simp) (AllReadyH.cons rfl (fun K1 hK1 => ?_) AllReadyH.nil)
  go_simp
  refine (HA.out _ B1.out.drew).mono ?_
  rintro e w5 ⟨rfl, b5⟩
  have J5 := hide (J1.out.next ((Below.refl w1.heap.size w1).drew.trans b5))
  clear b5
  refine hK1.out _ _ ⟨J5.out.c0, J5.out.c1⟩ (fun hH => ?_)
  clear hK1
  refine wpAnyH_ready (rs := [11]) (by kernel_rfl) (by simp) (AllReadyH.cons rfl (fun K1 hK1 => ?_) AllReadyH.nil)
  go_simp
  refine (HH.out _ J5.out).mono ?_
  rintro e w6 ⟨rfl, j6⟩
  have J6 := hide j6
  clear j6
  refine hK1.out _ _ ⟨J6.out.c0, J6.out.c1⟩ (fun hH => ?_)
  clear hK1 J5
  refine wpAnyH_take (i := 12) (v := .int .i64 7) rfl (by kernel_rfl) (by kernel_rfl) (by kernel_rfl) (fun _ _ _ h => h) (.inl ⟨by rfl, fun W _ => by go_simp⟩) hH ?_
  change wpAnyH _ _ _ _ _ _ _ (Act.put _ (some 7) _) _
  simp only [Act.put, List.setIfInBounds_toArray, List.set_cons_zero, List.set_cons_succ]
  refine wpAnyH_done (by kernel_rfl) ?_ _
  go_wp2
  go_ret
  exact ⟨rfl, J6.out⟩
theorem open_dead (h : DBk K B w gd x T) (nm : ByteArray) (hn : okJ nm = true) (hd : x.dead = true) : Calls Tryz.prog 6 #[.pointer (some ⟨gd, 0, none⟩), .string nm] w fun e w' => e = .returned (.tuple #[.pointer none, .int .i64 7]) ∧ Below w.heap.size w w' := by
  have HI := hide (isNameJ_any nm (by have := okJ_size hn; unfold maxLen; omega) w)
  have HL := hide fun gj W j => load_dead (w := W) (gj := gj) (gd := gd) (T := T) (x := x) (K := K) (B := B) (nm := nm) j (okJ_size hn) (fnd_dead hd nm)
  have HN := hide fun W (b : Below w.heap.size w W) => jb_new (h.next b) nm
  rw [hn] at HI
  clear h hd hn
  go_enter Tryz.func6, Tryz.ntmps6
  go_upto_region 6 with (go_at_call 15; refine HI.out.mono ?_; rintro e w1 ⟨rfl, hb⟩; have HB := hide hb; clear hb)
  have J1 := hide (HN.out w1 HB.out)
  have B2 := hide (HB.out.alloc HB.out.size (.cells #[.pointer (some ⟨gd, 0, none⟩), .string nm, .int .u64 0, .slice none 0 0, .int .i64 0, .bool false] 58))
  clear HN
  generalize w1.alloc (.cells #[.pointer (some ⟨gd, 0, none⟩), .string nm, .int .u64 0, .slice none 0 0, .int .i64 0, .bool false] 58) = W2 at *
  generalize w1.heap.size = gj at *
  go_wp2_with (first | (go_at_call 16; refine (HL.out _ _ J1.out).mono ?_; rintro e w3 ⟨rfl, b3⟩; have B3 := hide (below_next B2.out b3); clear b3))
  go_ret2
  exact ⟨rfl, B3.out⟩
theorem cut_nil (w : World) : Calls Tryz.prog 24 #[.pointer none, .int .i64 0] w fun e w' => e = .returned (.int .i64 7) ∧ w' = w := by
  have HD := hide (deadJ_nil w)
  go_enter Tryz.func24, Tryz.ntmps24
  go_wp2_with (go_at_call 30; refine HD.out.mono ?_; rintro e w1 ⟨rfl, hw⟩; subst w1)
  go_ret
  exact ⟨rfl, rfl⟩
theorem renew_nil (w : World) : Calls Tryz.prog 22 #[.pointer none, .slice none 0 0] w fun e w' => e = .returned (.int .i64 7) ∧ w' = w := by
  have HD := hide (deadJ_nil w)
  go_enter Tryz.func22, Tryz.ntmps22
  go_wp2_with (go_at_call 30; refine HD.out.mono ?_; rintro e w1 ⟨rfl, hw⟩; subst w1)
  go_ret
  exact ⟨rfl, rfl⟩
theorem allJ_nil (w : World) : Calls Tryz.prog 28 #[.pointer none] w fun e w' => e = .returned (.slice none 0 0) ∧ w' = w := by
  go_enter Tryz.func28, Tryz.ntmps28
  go_wp2
  go_ret
  exact ⟨rfl, rfl⟩
theorem epochJ_nil (w : World) : Calls Tryz.prog 29 #[.pointer none] w fun e w' => e = .returned (.int .u64 0) ∧ w' = w := by
  go_enter Tryz.func29, Tryz.ntmps29
  go_wp2
  go_ret
  exact ⟨rfl, rfl⟩
theorem tornJ_nil (w : World) : Calls Tryz.prog 25 #[.pointer none] w fun e w' => e = .returned (.int .i64 0) ∧ w' = w := by
  go_enter Tryz.func25, Tryz.ntmps25
  go_wp2
  go_ret
  exact ⟨rfl, rfl⟩
theorem sizeJ_nil (w : World) : Calls Tryz.prog 27 #[.pointer none] w fun e w' => e = .returned (.int .i64 0) ∧ w' = w := by
  go_enter Tryz.func27, Tryz.ntmps27
  go_wp2
  go_ret
  exact ⟨rfl, rfl⟩
theorem getJ_nil (w : World) : Calls Tryz.prog 19 #[.pointer none, .int .i64 0] w fun e w' => e = .returned (.tuple #[.string ⟨#[]⟩, .bool false]) ∧ w' = w := by
  have HL := hide (lenJ_nil w)
  go_enter Tryz.func19, Tryz.ntmps19
  go_wp2_with (go_at_call 20; refine HL.out.mono ?_; rintro e w1 ⟨rfl, hw⟩; subst w1)
  go_ret2
  exact ⟨rfl, rfl⟩
end
end Go.Proofs.YtgncphoaknffnaaGreatDoor
