/- The store: a disk's names, and how many there are. The store: its cells; a file's name; which files there are. The store: has, last, isName; none at all. -/
import Derived.Test.YtppooipamibhoaaGreatDoorX22
namespace Go.Proofs.YtppooipamibhoaaGreatDoor
open Go.RowKit
open Go.Deep
open Go.Lib
open Go.Maps
open Go.Sort
open Go.MapKept Go.ChangeMaps Go.WideElems
set_option linter.unusedVariables false
section
set_option maxRecDepth 10000
set_option maxHeartbeats 2000000
theorem namesO_nil (gd : Nat) (w : World) (hc : w.cell? ⟨gd, 0, none⟩ = some (.map none)) : Calls Tryz.prog 123 #[.pointer (some ⟨gd, 0, none⟩)] w fun e w' => ∃ v ks, e = .returned v ∧ Nms FS.none ks ∧ ks.length ≤ 1000000 ∧ w'.ownsRow w.heap.size 9 1 v ks.length ((ks.mergeSort (fun x y => decide (x ≤ y))).map encStr) ∧ Below w.heap.size w w' := by
  have HK := hide ((callsIn_wide (n := 5)).1 (mapsKeys_in none w))
  have HS := hide ((callsIn_wide (n := 5)).1 (sortedKeysNil_in w))
  go_enter Tryz.func123, Tryz.ntmps123
  go_wp2_with (first | (go_at_call 206; refine HK.out.mono ?_; rintro e w1 ⟨rfl, rfl⟩) | (go_at_call 205; refine HS.out.mono ?_; rintro e w2 ⟨v, ss, rfl, hss, hrow, hnil, hb⟩; have R2 := hide (And.intro hss (And.intro hrow hb)); clear hss hrow hnil hb))
  go_ret
  obtain ⟨hs, row, hb⟩ := R2.out
  subst hs
  have b1 := (Below.refl w.heap.size w).alloc (Nat.le_refl _) (.cells #[.map none] 230)
  exact ⟨v, [], rfl, ⟨List.nodup_nil, fun k => by simp [FS.none]⟩, by decide, owns_lower row b1.size, below_next b1 hb⟩
theorem namesO_some (gd b : Nat) (F : List UInt8 → Option Value) (f : FS) (S : Nat → Prop) (w : World) (hc : w.cell? ⟨gd, 0, none⟩ = some (.map (some b))) (h : Fs w b F f S) (hn : f.n < 1000000) : Calls Tryz.prog 123 #[.pointer (some ⟨gd, 0, none⟩)] w fun e w' => ∃ v ks, e = .returned v ∧ Nms f ks ∧ ks.length ≤ 1000000 ∧ w'.ownsRow w.heap.size 9 1 v ks.length ((ks.mergeSort (fun x y => decide (x ≤ y))).map encStr) ∧ Below w.heap.size w w' := by
  obtain ⟨D, ho, hh, ha, hs⟩ := h.mp.ex
  have HK := hide ((callsIn_wide (n := 5)).1 (mapsKeys_in (some b) w))
  have HS := hide ((callsIn_wide (n := 5)).1 (sortedKeys_in b f.n D slE w ho (by rw [hs]; unfold maxLen; omega) (by rw [hs]; omega)))
  have NM : Hid (∀ ss : List (List UInt8), ss.Perm (strKeys D) → Nms f ss ∧ ss.length ≤ 1000000) := fun ss hp => by
    obtain ⟨es, hD, hpw, _⟩ := ho.entries lawS
    obtain ⟨es0, clock, _, Ft, _, hD0⟩ := ho
    have hk : ∀ p ∈ es, ∃ k, p.1 = .string k := fun p hp => by
      rw [hD] at hD0
      injection hD0 with hD0
      rw [hD0] at hp
      obtain ⟨v, hv⟩ := Maps.fit_keys Ft p (mem_sorted.1 hp)
      obtain ⟨s, _, hs, _⟩ := keyS_inv hv
      exact ⟨_, hs⟩
    have hsk : strKeys D = es.map fun p => strOf p.1 := by rw [hD]; rfl
    rw [hsk] at hp
    refine ⟨⟨hp.nodup_iff.2 ?_, fun k => ?_⟩, by rw [hp.length_eq, List.length_map]; rw [hD] at hs; first | (have h9 : es.length = f.n := hs; omega) | (simp at hs; omega)⟩
    · refine List.pairwise_map.2 (hpw.imp_of_mem fun {p q} hp' hq' hne e => hne ?_)
      obtain ⟨a, ha⟩ := hk p hp'
      obtain ⟨c, hc⟩ := hk q hq'
      rw [ha, hc] at e ⊢
      exact congrArg Lit.string e
    · rw [hp.mem_iff, List.mem_map, ← h.dom, ← hh, hD, Maps.has_eq, List.any_eq_true]
      constructor
      · rintro ⟨p, hpe, rfl⟩
        obtain ⟨a, ha⟩ := hk p hpe
        exact ⟨p, hpe, by rw [ha]; exact WideAt.sameKey_self trivial⟩
      · rintro ⟨p, hpe, hsk⟩
        exact ⟨p, hpe, by rw [WideAt.sameKey_eq hsk]; rfl⟩
  clear h ho hh ha hs hn
  go_enter Tryz.func123, Tryz.ntmps123
  go_wp2_with (first | (go_at_call 206; refine HK.out.mono ?_; rintro e w1 ⟨rfl, rfl⟩) | (go_at_call 205; refine HS.out.mono ?_; rintro e w2 ⟨v, ss, rfl, hss, hrow, hnil, hb⟩; have R2 := hide (And.intro hss (And.intro hrow hb)); clear hss hrow hnil hb))
  go_ret
  obtain ⟨hs, row, hb⟩ := R2.out
  have b1 := (Below.refl w.heap.size w).alloc (Nat.le_refl _) (.cells #[.map (some b)] 230)
  exact ⟨v, ss, rfl, (NM.out ss hs).1, (NM.out ss hs).2, owns_lower row b1.size, below_next b1 hb⟩
theorem namesO_any (gd : Nat) (x : StD) (T : Nat → Prop) (w : World) (h : DK w gd x T) (hn : x.now.n < 1000000) : Calls Tryz.prog 123 #[.pointer (some ⟨gd, 0, none⟩)] w fun e w' => ∃ v ks, e = .returned v ∧ Nms x.now ks ∧ ks.length ≤ 1000000 ∧ w'.ownsRow w.heap.size 9 1 v ks.length ((ks.mergeSort (fun x y => decide (x ≤ y))).map encStr) ∧ Below w.heap.size w w' := by
  obtain ⟨S1, S2, mn, ms, vo, vp, h⟩ := h
  have c0 : w.cell? ⟨gd, 0, none⟩ = some (.map mn) := h.cell 0 (by decide)
  rcases h.now with ⟨rfl, hs, _⟩ | ⟨b, F, rfl, hf⟩
  · rw [hs]
    exact namesO_nil gd w c0
  · exact namesO_some gd b F x.now S1 w c0 hf hn
end
end Go.Proofs.YtppooipamibhoaaGreatDoor
namespace Go.Proofs.YtppooipamibhoaaGreatDoor
open Go.RowKit
open Go.Deep
open Go.Lib
set_option linter.unusedVariables false
set_option linter.unusedSimpArgs false
def KNm : Ek (List UInt8) := ⟨112, 9, 1, 16, fun s => [.string (txt s)], by decide, by decide, Tryz.underlying112, by kernel_rfl, fun _ => rfl, fun x v hv => by
  rw [List.mem_singleton.1 hv]
  rfl⟩
def KNo : Ek Nat := ⟨37, 3, 1, 8, fun x => [.int .i64 (x : Int)], by decide, by decide, Tryz.underlying37, by kernel_rfl, fun _ => rfl, fun x v hv => by
  rw [List.mem_singleton.1 hv]
  rfl⟩
theorem flat_Nm (L : List (List UInt8)) : flatE KNm L = L.map encStr := by
  unfold flatE
  induction L with
  | nil => rfl
  | cons a r ih => rw [List.map_cons, List.flatten_cons, ih]; rfl
theorem flat_No (L : List Nat) : flatE KNo L = L.map fun x : Nat => Value.int .i64 (x : Int) := by
  unfold flatE
  induction L with
  | nil => rfl
  | cons a r ih => rw [List.map_cons, List.flatten_cons, ih]; rfl
/-- The names of a disk's files in their order. -/
def srtO (ks : List (List UInt8)) : List (List UInt8) := ks.mergeSort (fun x y => decide (x ≤ y))
theorem srtO_mem {f : FS} {ks : List (List UInt8)} (h : Nms f ks) (k : List UInt8) : k ∈ srtO ks ↔ (f.get k).isSome = true := by
  rw [← h.mem]
  exact (List.mergeSort_perm ks _).mem_iff
theorem srtO_len (ks : List (List UInt8)) : (srtO ks).length = ks.length := List.length_mergeSort ks
theorem srtO_sorted {f : FS} {ks : List (List UInt8)} (h : Nms f ks) : (srtO ks).Pairwise (· < ·) := by
  have hs := List.pairwise_mergeSort (le := fun x y : List UInt8 => decide (x ≤ y)) (fun a b c h1 h2 => by
    simp only [decide_eq_true_eq] at *
    exact List.le_trans h1 h2) (fun a b => by
    simp only [Bool.or_eq_true, decide_eq_true_eq]
    exact List.le_total a b) ks
  have hnd : (srtO ks).Nodup := (List.mergeSort_perm ks _).nodup_iff.2 h.nd
  refine (List.Pairwise.and hs hnd).imp fun {a b} hab => ?_
  obtain ⟨h1, h2⟩ := hab
  simp only [decide_eq_true_eq] at h1
  exact Decidable.byContradiction fun h3 => h2 (List.le_antisymm h1 (List.not_lt.1 h3))
theorem srtO_own {W : World} {B : Nat} {v : Value} {ks : List (List UInt8)} (h : W.ownsRow B 9 1 v ks.length ((ks.mergeSort (fun x y => decide (x ≤ y))).map encStr)) : OX KNm W v (srtO ks) := by
  unfold OX
  rw [flat_Nm, srtO_len]
  exact owns_lower h (Nat.zero_le _)
/-- A store's cells. -/
def SO (w : World) (sd gd : Nat) (nm : ByteArray) (most torn : Nat) : Prop := w.heap[sd]? = some (.cells #[.pointer (some ⟨gd, 0, none⟩), .string nm, .int .i64 (most : Int), .int .i64 (torn : Int)] 236 (0, 0))
section
variable {w w' : World} {sd gd : Nat} {nm : ByteArray} {most torn : Nat} {T : Nat → Prop}
theorem SO.lt (h : SO w sd gd nm most torn) : sd < w.heap.size := lt_heap h
theorem SO.next (h : SO w sd gd nm most torn) (b : Below w.heap.size w w') : SO w' sd gd nm most torn := (b.block sd h.lt).trans h
theorem SO.fr (h : SO w sd gd nm most torn) (f : Fr T w w') (hT : ¬ T sd) : SO w' sd gd nm most torn := (f.block sd h.lt hT).trans h
theorem SO.c0 (h : SO w sd gd nm most torn) : w.cell? ⟨sd, 0, none⟩ = some (.pointer (some ⟨gd, 0, none⟩)) := by rw [cell_of_row w sd 0 _ _ _ h]; rfl
theorem SO.c1 (h : SO w sd gd nm most torn) : w.cell? ⟨sd, 1, none⟩ = some (.string nm) := by rw [cell_of_row w sd 1 _ _ _ h]; rfl
theorem SO.c2 (h : SO w sd gd nm most torn) : w.cell? ⟨sd, 2, none⟩ = some (.int .i64 (most : Int)) := by rw [cell_of_row w sd 2 _ _ _ h]; rfl
theorem SO.c3 (h : SO w sd gd nm most torn) : w.cell? ⟨sd, 3, none⟩ = some (.int .i64 (torn : Int)) := by rw [cell_of_row w sd 3 _ _ _ h]; rfl
theorem SO.fz (h : SO w sd gd nm most torn) (i : Nat) : w.frozen? ⟨sd, i, none⟩ = false := frozen_of_row w sd i _ _ h
end
theorem bsNo (n : Nat) (W : World) : (Instr.buildSlice 37 1 #[(0, .int .i64 (n : Int))]).run Tryz.prog W = .ok (.slice (some ⟨W.heap.size, 0, none⟩) 1 1) (W.alloc (.cells (KNo.enc n).toArray KNo.e)) := by kernel_rfl
section
variable {w : World} {ops : Array Oper} {rest : List Oper} {o : Oper} {a : Act} {Q : Exit → Act → World → Prop}
theorem wp_bsO (hgd : o.guard = none) (t : TypeId) (n : Nat) (y : Array (Nat × Operand)) (ho : o.op = .buildSlice t n y) (y' : Array (Nat × Value)) (hy : y.map (fun p => (p.1, a.eval p.2)) = y') (v : Value) (w1 : World) (hr : (Instr.buildSlice t n y').run Tryz.prog w = .ok v w1) (h : wpList Tryz.prog ops Q rest (a.put o.dst v) w1) : wpList Tryz.prog ops Q (o :: rest) a w := by
  refine wpList_plain hgd fun K hK => ?_
  unfold Oper.wp execOp
  simp only [ho, hy, hr, Sem.run_bind, Result.andThen_ok, Sem.run_pure]
  exact hK _ _ h
end
section
set_option maxRecDepth 10000
set_option maxHeartbeats 4000000
variable {w : World} {sd gd : Nat} {nm : ByteArray} {most torn : Nat} {T : Nat → Prop} {x : StD}
theorem fileO_any (h : SO w sd gd nm most torn) (n : Nat) (hn : n < 32) (hm : nm.size ≤ 20) : Calls Tryz.prog 117 #[.pointer (some ⟨sd, 0, none⟩), .int .i64 (n : Int)] w fun e w' => e = .returned (.string (fileO nm n)) ∧ Below w.heap.size w w' := by
  have HI := hide fun W => itoaO_any n hn W
  have HC : Hid (∀ W, Below w.heap.size w W → W.cell? ⟨sd, 1, none⟩ = some (.string nm)) := fun W b => (h.next b).c1
  have q1 : nm ++ (⟨#[45]⟩ : ByteArray) ++ txt (dgO n) = fileO nm n := by
    unfold fileO
    rw [show (⟨#[45]⟩ : ByteArray) = txt [45] from rfl, ByteArray.append_assoc, txtJ_app]
    rfl
  have z1 : (nm.size : Int) ≤ 20 := by omega
  have g1 : ¬ 9223372036854775807 < nm.size + 1 := by omega
  have z2 : (txt (dgO n)).size ≤ 2 := by rw [txtJ_size]; exact (dgO_ok n hn).2
  have z3 : (nm ++ (⟨#[45]⟩ : ByteArray)).size = nm.size + 1 := by rw [ByteArray.size_append]; rfl
  have g2 : ¬ 9223372036854775807 < nm.size + 1 + (txt (dgO n)).size := by omega
  clear h hn
  generalize txt (dgO n) = dt at *
  generalize fileO nm n = ft at *
  go_enter Tryz.func117, Tryz.ntmps117
  go_upto_region 1 with fail
  go_region_held3 (fun w' => Below w.heap.size w w' ∧ w'.cell? ⟨sd, 1, none⟩ = some (.string nm)) (first | assumption | exact (fun hb => ⟨hb, HC.out _ hb⟩) ((Below.refl _ _).drew)) (first | (go_at_call 195; refine (HI.out _).mono ?_; rintro e w1 ⟨rfl, hw⟩; subst w1))
  go_wp2
  go_ret
  exact ⟨rfl, And.left (by assumption)⟩
theorem binNil_any (k : ByteArray) (w : World) : Calls Tryz.prog 124 #[.slice none 0 0, .string k] w fun e w' => (∃ i : Int, e = .returned (.tuple #[.int .i64 i, .bool false])) ∧ w' = w := by
  go_enter Tryz.func124, Tryz.ntmps124
  go_wp2
  go_loopw [7, 8] (fun i j wr => i = .int .i64 0 ∧ j = .int .i64 0 ∧ wr = w) (fun i j _ => 0)
  case atStart => exact ⟨rfl, rfl, rfl⟩
  case round =>
    obtain ⟨rfl, rfl, rfl⟩ := hrel
    go_wp2
    go_ret2
    exact ⟨⟨_, rfl⟩, rfl⟩
theorem binX_any (S : List (List UInt8)) (k : ByteArray) (v : Value) (w : World) (hs : S.Pairwise (· < ·)) (hl : S.length ≤ 1000000) (hv : OX KNm w v S) : Calls Tryz.prog 124 #[v, .string k] w fun e w' => (∃ i : Int, e = .returned (.tuple #[.int .i64 i, .bool (decide (lsD k ∈ S))])) ∧ w' = w := by
  rcases hv.2 with ⟨e, h0⟩ | ⟨g, cap, cur, e, hb, hg, r⟩
  · subst e
    have : S = [] := List.eq_nil_of_length_eq_zero h0
    subst this
    exact binNil_any k w
  · subst e
    refine binS_any S k g S.length cap rfl w hs (by omega) fun j hj => ?_
    refine hv.at j _ ?_
    rw [flat_Nm, List.getElem?_map, List.getElem?_eq_getElem hj]
    rfl
theorem filesRange (f : FS) (m : List UInt8) (n : Nat) : (List.range (n + 1)).filter (hasO f m) = (List.range n).filter (hasO f m) ++ if hasO f m n then [n] else [] := by
  rw [List.range_succ, List.filter_append]
  congr 1
  cases h : hasO f m n <;> simp [h]
theorem files_any (h : SO w sd gd nm most torn) (hd : DK w gd x T) (hm : nm.size ≤ 20) (hn : x.now.n < 1000000) : Calls Tryz.prog 44 #[.pointer (some ⟨sd, 0, none⟩)] w fun e w' => ∃ v, e = .returned v ∧ OX KNo w' v (filesO x.now (lsD nm)) ∧ (∀ g, v.ownBlock = some g → w.heap.size ≤ g) ∧ Below w.heap.size w w' := by
  have c0 := h.c0
  have HN := hide (namesO_any gd x T w hd hn)
  have HF : Hid (∀ n : Nat, n < 32 → ∀ W, Below w.heap.size w W → Calls Tryz.prog 117 #[.pointer (some ⟨sd, 0, none⟩), .int .i64 (n : Int)] W fun e w' => e = .returned (.string (fileO nm n)) ∧ Below W.heap.size W w') := fun n hn W b => fileO_any (h.next b) n hn hm
  clear h hd hn hm
  generalize x.now = f at *
  go_enter Tryz.func44, Tryz.ntmps44
  go_upto_region 6 with (go_at_call 123; refine HN.out.mono ?_; rintro e W1 ⟨v1, ks, rfl, hk, hkl, ho, b1⟩; have HL := hide (show (srtO ks).length ≤ 1000000 by rw [srtO_len]; exact hkl); have HO := hide (srtO_own ho); have HS := hide (srtO_sorted hk); have HM := hide (srtO_mem hk); have B1 := hide b1; clear ho hk hkl b1 c0 HN)
  generalize srtO ks = S at *
  go_loopw [4, 15] (fun v i wr => ∃ n : Nat, n ≤ 32 ∧ i = .int .i64 (n : Int) ∧ Hid (Lw KNo W1 wr v ((List.range n).filter (hasO f (lsD nm))))) (fun v i _ => (32 - intOf i).toNat)
  case atStart => exact ⟨0, by omega, rfl, ⟨OX.nil _, fun g hg => (by cases hg), Below.refl _ _⟩⟩
  case round =>
    obtain ⟨n, hle, rfl, hl⟩ := hrel
    by_cases hlt : n < 32
    · have HF := hide (HF.out n hlt)
      have i1 : (n : Int) < 32 := by omega
      have e1 : IntKind.i64.wrap ((n : Int) + 1) = n + 1 := wrapI _ (by omega) (by omega)
      have B2 := hide (B1.out.trans (hl.out.bel.mono B1.out.size))
      have HB := hide fun W (b : Below W1.heap.size W1 W) => binX_any S (fileO nm n) v1 W HS.out HL.out (HO.out.below b)
      have hdec : decide (lsD (fileO nm n) ∈ S) = hasO f (lsD nm) n := by
        rw [fileO_ls]
        unfold hasO
        cases hq : (f.get (fnO (lsD nm) n)).isSome with
        | true => exact decide_eq_true ((HM.out _).2 hq)
        | false => exact decide_eq_false (fun hc => by have := (HM.out _).1 hc; rw [hq] at this; cases this)
      rw [hdec] at HB
      have hr := filesRange f (lsD nm) n
      clear hdec HM HO HS
      generalize fileO nm n = ft at *
      cases hb : hasO f (lsD nm) n with
      | false =>
        rw [hb] at HB hr
        rw [if_neg (by decide), List.append_nil] at hr
        go_wp2_with (first | (go_at_call 117; refine (HF.out _ B2.out).mono ?_; rintro e W2 ⟨rfl, b2⟩; have B3 := hide b2; clear b2) | (go_at_call 124; refine (HB.out _ (below_next hl.out.bel B3.out)).mono ?_; rintro e W3 ⟨⟨ix, rfl⟩, hw⟩; subst W3))
        go_roundw
        case rel => exact ⟨n + 1, by omega, by go_num, by rw [hr]; exact hl.out.next B3.out⟩
        case measure => simp [intOf]; omega
      | true =>
        rw [hb] at HB hr
        rw [if_pos rfl] at hr
        have len : ((List.range n).filter (hasO f (lsD nm))).length ≤ n := by
          have := List.length_filter_le (hasO f (lsD nm)) (List.range n)
          rwa [List.length_range] at this
        go_upto_region 10 with (first | (go_at_call 117; refine (HF.out _ B2.out).mono ?_; rintro e W2 ⟨rfl, b2⟩; have B3 := hide b2; clear b2) | (go_at_call 124; refine (HB.out _ (below_next hl.out.bel B3.out)).mono ?_; rintro e W3 ⟨⟨ix, rfl⟩, hw⟩; subst W3))
        have L3 := hide (hl.out.next B3.out)
        clear HB HF B3
        have b4 := (Below.refl W2.heap.size W2).alloc (Nat.le_refl _) (.cells (KNo.enc n).toArray KNo.e)
        go_wp2_with ((with_reducible refine at_list ?_); first | refine wp_bsO rfl _ _ _ rfl #[(0, .int .i64 (n : Int))] (by simp only [List.map_toArray, List.map_cons, List.map_nil]; rfl) _ _ (bsNo n _) ?_ | (refine Ek.wpApp KNo rfl _ _ rfl _ _ rfl (L3.out.next b4).ox _ 1 1 [n] rfl rfl (one_newX (E := KNo) W2 n) (by show (_ + 1) * 8 ≤ _; omega) (by show _ + 1 ≤ _; unfold maxLen; omega) ?_; intro v' w' ho hon; have L5 := hide ((L3.out.next b4).app ho hon); clear ho hon))
        go_roundw
        case rel => exact ⟨n + 1, by omega, by go_num, by rw [hr]; exact L5.out⟩
        case measure => simp [intOf]; omega
    · have hn32 : n = 32 := by omega
      subst hn32
      clear HF HM HO HS
      go_wp2
      go_ret
      exact ⟨_, rfl, hl.out.ox, fun g hg => Nat.le_trans B1.out.size (hl.out.far g hg), B1.out.trans (hl.out.bel.mono B1.out.size)⟩
theorem files_nil (w : World) : Calls Tryz.prog 44 #[.pointer none] w fun e w' => e = .returned (.slice none 0 0) ∧ w' = w := by
  go_enter Tryz.func44, Tryz.ntmps44
  go_wp2
  go_ret
  exact ⟨rfl, rfl⟩
end
end Go.Proofs.YtppooipamibhoaaGreatDoor
namespace Go.Proofs.YtppooipamibhoaaGreatDoor
open Go.RowKit
open Go.Deep
open Go.Lib
set_option linter.unusedVariables false
set_option linter.unusedSimpArgs false
/-- Is a number among others? -/
def hasI (L : List Nat) (k : Int) : Bool := L.any fun n => decide ((n : Int) = k)
theorem hasI_take {L : List Nat} {k : Int} {i : Nat} (hi : i < L.length) : hasI (L.take (i + 1)) k = (hasI (L.take i) k || decide ((L[i] : Int) = k)) := by
  unfold hasI
  rw [List.take_succ_eq_append_getElem hi, List.any_append]
  simp
theorem hasI_yes {L : List Nat} {k : Int} {i : Nat} (hi : i < L.length) (h : (L[i] : Int) = k) : hasI L k = true := by
  unfold hasI
  rw [List.any_eq_true]
  exact ⟨L[i], List.getElem_mem hi, decide_eq_true h⟩
theorem hasI_files {f : FS} {m : List UInt8} {k : Int} (h : hasI (filesO f m) k = true) : ∃ n : Nat, n < 32 ∧ k = (n : Int) ∧ hasO f m n = true := by
  unfold hasI at h
  rw [List.any_eq_true] at h
  obtain ⟨n, hn, e⟩ := h
  obtain ⟨h1, h2⟩ := filesO_mem.1 hn
  exact ⟨n, h1, (of_decide_eq_true e).symm, h2⟩
theorem lastI_nil {f : FS} {m : List UInt8} (h : filesO f m = []) : lastI f m = -1 := by
  unfold lastI lastO
  rw [h]
  rfl
theorem lastI_some {f : FS} {m : List UInt8} (h : 0 < (filesO f m).length) : ∃ n : Nat, (filesO f m)[(filesO f m).length - 1]? = some n ∧ lastI f m = (n : Int) := by
  unfold lastI lastO
  rw [List.getLast?_eq_getElem?, List.getElem?_eq_getElem (by omega)]
  exact ⟨_, rfl, rfl⟩
section
set_option maxRecDepth 10000
set_option maxHeartbeats 4000000
theorem idxNil_any (k : Int) (w : World) : Calls Tryz.prog 286 #[.slice none 0 0, .int .i64 k] w fun e w' => e = .returned (.int .i64 (-1)) ∧ w' = w := by
  go_enter Tryz.func286, Tryz.ntmps286
  go_wp2
  go_loopw [8] (fun i wr => i = .int .i64 0 ∧ wr = w) (fun i _ => 0)
  case atStart => exact ⟨rfl, rfl⟩
  case round =>
    obtain ⟨rfl, rfl⟩ := hrel
    go_wp2
    go_ret
    exact ⟨rfl, rfl⟩
theorem idxB_any (L : List Nat) (k : Int) (g n c : Nat) (hn : n = L.length) (hl : L.length ≤ 1000) (w : World) (hc : ∀ j (h : j < L.length), w.cell? ⟨g, j, none⟩ = some (.int .i64 (L[j] : Int))) : Calls Tryz.prog 286 #[.slice (some ⟨g, 0, none⟩) n c, .int .i64 k] w fun e w' => (∃ i : Int, e = .returned (.int .i64 i) ∧ decide (0 ≤ i) = hasI L k) ∧ w' = w := by
  subst hn
  have HC := hide hc
  have HL := hide hl
  clear hc hl
  go_enter Tryz.func286, Tryz.ntmps286
  go_wp2
  go_loopw [8] (fun i wr => ∃ j : Nat, j ≤ L.length ∧ i = .int .i64 (j : Int) ∧ wr = w ∧ Hid (hasI (L.take j) k = false)) (fun i _ => (L.length - intOf i).toNat)
  case atStart => exact ⟨0, Nat.zero_le _, rfl, rfl, by show _ = _; rfl⟩
  case round =>
    obtain ⟨j, hj, rfl, rfl, hno⟩ := hrel
    have hl := HL.out
    by_cases hlt : j < L.length
    · have h1 : (0 : Int) ≤ (j : Int) := by omega
      have h2 : (j : Int) < L.length := by omega
      have e1 : IntKind.i64.wrap ((j : Int) + 1) = j + 1 := wrapI _ (by omega) (by omega)
      have cj : wr.cell? ⟨g, j, none⟩ = some (.int .i64 (L[j] : Int)) := HC.out j hlt
      have ht := hasI_take (k := k) hlt
      rw [hno.out, Bool.false_or] at ht
      have HY : Hid (k = (L[j] : Int) → hasI L k = true) := fun h => hasI_yes hlt h.symm
      clear HC HL hno
      by_cases hk : k = (L[j] : Int)
      · have HZ := hide (HY.out hk)
        generalize L[j] = y at *
        clear HY ht
        go_wp2
        go_ret
        exact ⟨⟨(j : Int), rfl, by rw [HZ.out]; exact decide_eq_true h1⟩, rfl⟩
      · rw [decide_eq_false (fun h => hk h.symm)] at ht
        have HT := hide ht
        generalize L[j] = y at *
        clear HY ht
        go_wp2
        go_roundw
        case rel => exact ⟨j + 1, by omega, by go_num, by first | rfl | trivial, HT.out⟩
        case measure => simp [intOf]; omega
    · have h2 : ¬ (j : Int) < L.length := by omega
      have : hasI L k = false := by
        have := hno.out
        rwa [List.take_of_length_le (by omega)] at this
      have HZ := hide this
      clear HC HL hno this
      go_wp2
      go_ret
      exact ⟨⟨(-1 : Int), rfl, by rw [HZ.out]; rfl⟩, rfl⟩
theorem idxX_any (L : List Nat) (k : Int) (v : Value) (w : World) (hl : L.length ≤ 1000) (hv : OX KNo w v L) : Calls Tryz.prog 286 #[v, .int .i64 k] w fun e w' => (∃ i : Int, e = .returned (.int .i64 i) ∧ decide (0 ≤ i) = hasI L k) ∧ w' = w := by
  rcases hv.2 with ⟨e, h0⟩ | ⟨g, cap, cur, e, hb, hg, r⟩
  · subst e
    have : L = [] := List.eq_nil_of_length_eq_zero h0
    subst this
    refine (idxNil_any k w).mono ?_
    rintro e w' ⟨rfl, hw⟩
    exact ⟨⟨_, rfl, rfl⟩, hw⟩
  · subst e
    refine idxB_any L k g L.length cap rfl hl w fun j hj => ?_
    refine hv.at j _ ?_
    rw [flat_No, List.getElem?_map, List.getElem?_eq_getElem hj]
    rfl
theorem contX_any (L : List Nat) (k : Int) (v : Value) (w : World) (hl : L.length ≤ 1000) (hv : OX KNo w v L) : Calls Tryz.prog 211 #[v, .int .i64 k] w fun e w' => e = .returned (.bool (hasI L k)) ∧ w' = w := by
  have HI := hide (idxX_any L k v w hl hv)
  clear hv hl
  go_enter Tryz.func211, Tryz.ntmps211
  go_wp2_with (go_at_call 286; refine HI.out.mono ?_; rintro e w1 ⟨⟨i, rfl, hi⟩, hw⟩; subst w1; have II := hide hi; clear hi)
  go_ret
  exact ⟨by rw [← II.out]; rfl, rfl⟩
variable {w : World} {sd gd : Nat} {nm : ByteArray} {most torn : Nat} {T : Nat → Prop} {x : StD}
theorem has_any (h : SO w sd gd nm most torn) (hd : DK w gd x T) (hm : nm.size ≤ 20) (hn : x.now.n < 1000000) (k : Int) : Calls Tryz.prog 132 #[.pointer (some ⟨sd, 0, none⟩), .int .i64 k] w fun e w' => e = .returned (.bool (hasI (filesO x.now (lsD nm)) k)) ∧ Below w.heap.size w w' := by
  have HF := hide (files_any h hd hm hn)
  have hl := filesO_len x.now (lsD nm)
  have HC := hide fun v W (o : OX KNo W v (filesO x.now (lsD nm))) => contX_any (filesO x.now (lsD nm)) k v W (by omega) o
  clear h hd hm hn hl
  generalize filesO x.now (lsD nm) = L at *
  go_enter Tryz.func132, Tryz.ntmps132
  go_wp2_with (first | (go_at_call 44; refine HF.out.mono ?_; rintro e w1 ⟨v1, rfl, o1, _, b1⟩; have O1 := hide o1; have B1 := hide b1; clear o1 b1) | (go_at_call 211; refine (HC.out _ _ O1.out).mono ?_; rintro e w2 ⟨rfl, hw⟩; subst w2))
  go_ret
  exact ⟨rfl, B1.out⟩
theorem has_nil (k : Int) (w : World) : Calls Tryz.prog 132 #[.pointer none, .int .i64 k] w fun e w' => e = .returned (.bool false) ∧ w' = w := by
  have HF := hide (files_nil w)
  have HC := hide (contX_any [] k (.slice none 0 0) w (by decide) (OX.nil w))
  go_enter Tryz.func132, Tryz.ntmps132
  go_wp2_with (first | (go_at_call 44; refine HF.out.mono ?_; rintro e w1 ⟨rfl, hw⟩; subst w1) | (go_at_call 211; refine HC.out.mono ?_; rintro e w2 ⟨rfl, hw⟩; subst w2))
  go_ret
  exact ⟨rfl, rfl⟩
theorem last_any (h : SO w sd gd nm most torn) (hd : DK w gd x T) (hm : nm.size ≤ 20) (hn : x.now.n < 1000000) : Calls Tryz.prog 133 #[.pointer (some ⟨sd, 0, none⟩)] w fun e w' => e = .returned (.int .i64 (lastI x.now (lsD nm))) ∧ Below w.heap.size w w' := by
  have HF := hide (files_any h hd hm hn)
  have hl := filesO_len x.now (lsD nm)
  have l0 := lastI_nil (f := x.now) (m := lsD nm)
  have l1 := lastI_some (f := x.now) (m := lsD nm)
  clear h hd hm hn
  generalize lastI x.now (lsD nm) = r at *
  generalize filesO x.now (lsD nm) = L at *
  by_cases h0 : L.length = 0
  · have : L = [] := List.eq_nil_of_length_eq_zero h0
    subst this
    rw [l0 rfl]
    clear l0 l1
    go_enter Tryz.func133, Tryz.ntmps133
    go_upto_region 2 with (go_at_call 44; refine HF.out.mono ?_; rintro e w1 ⟨v1, rfl, o1, _, b1⟩; have O1 := hide o1; have B1 := hide b1; clear o1 b1)
    obtain ⟨ao, c, rfl⟩ := O1.out.form
    go_wp2
    go_ret
    exact ⟨rfl, B1.out⟩
  · obtain ⟨y, hy, e⟩ := l1 (by omega)
    rw [e]
    have HY := hide hy
    clear l0 l1 hy e
    go_enter Tryz.func133, Tryz.ntmps133
    go_upto_region 2 with (go_at_call 44; refine HF.out.mono ?_; rintro e w1 ⟨v1, rfl, o1, _, b1⟩; have O1 := hide o1; have B1 := hide b1; clear o1 b1)
    clear HF
    rcases O1.out.2 with ⟨e, h00⟩ | ⟨g, cap, cur, e, hb, hg, rr⟩
    · exact absurd h00 h0
    · subst e
      have i0 : ¬ (L.length : Int) = 0 := by omega
      have e1 : IntKind.i64.wrap ((L.length : Int) - 1) = ((L.length - 1 : Nat) : Int) := by rw [wrapI _ (by omega) (by omega)]; omega
      have i1 : (0 : Int) ≤ ((L.length - 1 : Nat) : Int) := by omega
      have i2 : ((L.length - 1 : Nat) : Int) < L.length := by omega
      have cl : w1.cell? ⟨g, L.length - 1, none⟩ = some (.int .i64 (y : Int)) := by
        refine O1.out.at _ _ ?_
        rw [flat_No, List.getElem?_map, HY.out]
        rfl
      clear hb hg rr cur O1 HY
      generalize hk : L.length - 1 = k at *
      generalize L.length = n at *
      go_wp2
      go_ret
      exact ⟨rfl, B1.out⟩
theorem isNameO_any (nm : ByteArray) (hm : nm.size ≤ maxLen) (w : World) : Calls Tryz.prog 104 #[.string nm] w fun e w' => e = .returned (.bool (nameO (lsD nm))) ∧ Below w.heap.size w w' := by
  have HN := hide (newD_any w)
  have HS := hide fun W T h => sizeD_any w.heap.size ⟨FS.none, FS.none, [], 0, [], false⟩ T nm W h hm
  unfold maxLen at hm
  have hf : fnd ⟨FS.none, FS.none, [], 0, [], false⟩ nm = if isName (lsD nm) then 2 else 70 := by
    unfold fnd rdy
    cases h : isName (lsD nm) <;> simp [FS.none, h]
  rw [hf] at HS
  clear hf
  have hz := lsO_len nm
  unfold nameO
  rw [hz]
  clear hz
  cases hI : isName (lsD nm)
  · rw [hI] at HS
    rw [if_neg (by decide), if_neg (by decide)] at HS
    go_enter Tryz.func104, Tryz.ntmps104
    go_wp2_with (first | (go_at_call 32; refine HN.out.mono ?_; rintro e w1 ⟨rfl, d1, b1⟩; have D1 := hide d1; have B1 := hide b1; clear d1 b1) | (go_at_call 131; refine (HS.out _ _ D1.out).mono ?_; rintro e w2 ⟨rfl, b2⟩; have B2 := hide b2; clear b2))
    go_ret
    exact ⟨rfl, B1.out.trans (B2.out.mono B1.out.size)⟩
  · rw [hI] at HS
    rw [if_pos rfl, if_neg (by decide)] at HS
    have hd : decide ((nm.size : Int) ≤ 20) = decide (nm.size ≤ 20) := by
      apply decide_eq_decide.2
      omega
    go_enter Tryz.func104, Tryz.ntmps104
    go_wp2_with (first | (go_at_call 32; refine HN.out.mono ?_; rintro e w1 ⟨rfl, d1, b1⟩; have D1 := hide d1; have B1 := hide b1; clear d1 b1) | (go_at_call 131; refine (HS.out _ _ D1.out).mono ?_; rintro e w2 ⟨rfl, b2⟩; have B2 := hide b2; clear b2))
    go_ret
    exact ⟨rfl, B1.out.trans (B2.out.mono B1.out.size)⟩
/-- What reading a file tells ahead of all. -/
def readyE (x : StD) (nm : List UInt8) (k : Int) : Int := if x.dead then 7 else if hasI (filesO x.now nm) k then 0 else 181
theorem DK.dead5 (h : DK w gd x T) : w.cell? ⟨gd, 5, none⟩ = some (.bool x.dead) := by
  obtain ⟨S1, S2, mn, ms, vo, vp, h⟩ := h
  exact h.cell 5 (by decide)
theorem readyO_any (h : SO w sd gd nm most torn) (hd : DK w gd x T) (hm : nm.size ≤ 20) (hn : x.now.n < 1000000) (k : Int) : Calls Tryz.prog 120 #[.pointer (some ⟨sd, 0, none⟩), .int .i64 k] w fun e w' => e = .returned (.int .i64 (readyE x (lsD nm) k)) ∧ Below w.heap.size w w' := by
  have c0 := h.c0
  have HH := hide (has_any h hd hm hn k)
  have HD := hide (dead_cell gd x.dead w hd.dead5)
  unfold readyE
  clear h hd hm hn
  generalize hasI (filesO x.now (lsD nm)) k = b at *
  generalize x.dead = d at *
  cases d
  · cases b
    · go_enter Tryz.func120, Tryz.ntmps120
      go_wp2_with (first | (go_at_call 38; refine HD.out.mono ?_; rintro e w1 ⟨rfl, hw⟩; subst w1) | (go_at_call 132; refine HH.out.mono ?_; rintro e w2 ⟨rfl, b2⟩; have B2 := hide b2; clear b2))
      go_ret
      exact ⟨rfl, B2.out⟩
    · go_enter Tryz.func120, Tryz.ntmps120
      go_wp2_with (first | (go_at_call 38; refine HD.out.mono ?_; rintro e w1 ⟨rfl, hw⟩; subst w1) | (go_at_call 132; refine HH.out.mono ?_; rintro e w2 ⟨rfl, b2⟩; have B2 := hide b2; clear b2))
      go_ret
      exact ⟨rfl, B2.out⟩
  · go_enter Tryz.func120, Tryz.ntmps120
    go_wp2_with (first | (go_at_call 38; refine HD.out.mono ?_; rintro e w1 ⟨rfl, hw⟩; subst w1))
    go_ret
    exact ⟨rfl, Below.refl _ _⟩
theorem readyO_nil (k : Int) (w : World) : Calls Tryz.prog 120 #[.pointer none, .int .i64 k] w fun e w' => e = .returned (.int .i64 181) ∧ w' = w := by
  go_enter Tryz.func120, Tryz.ntmps120
  go_wp2
  go_ret
  exact ⟨rfl, rfl⟩
end
end Go.Proofs.YtppooipamibhoaaGreatDoor
