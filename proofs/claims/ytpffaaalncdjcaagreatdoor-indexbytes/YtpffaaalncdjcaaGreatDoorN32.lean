/- A journal in memory, with its disk; and its small calls. Journals: one step behind the other. Journals: what a file tells when it is opened. -/
import Derived.Test.YtpffaaalncdjcaaGreatDoorN25
import Derived.Test.YtpffaaalncdjcaaGreatDoorN31
import Derived.Test.YtpffaaalncdjcaaGreatDoorN07
namespace Go.Proofs.YtpffaaalncdjcaaGreatDoor
open Go.RowKit
open Go.Deep
open Go.Lib
set_option linter.unusedVariables false
/-- Lists of texts. -/
def KSJ : Ek ByteArray := ⟨63, 9, 1, 16, fun x => [.string x], by decide, by decide, Tryz.underlying63, by kernel_rfl, fun _ => rfl, fun x v hv => by simp only [List.mem_singleton] at hv; rw [hv]; rfl⟩
/-- A row of texts that is one's own, or one without spare room. -/
def RX (w : World) (v : Value) (L : List ByteArray) : Prop := OX KSJ w v L ∨ ∃ g, v = .slice (some ⟨g, 0, none⟩) L.length L.length ∧ g < w.heap.size ∧ ∀ i s, L[i]? = some s → w.cell? ⟨g, i, none⟩ = some (.string s)
section
variable {w W : World} {v : Value} {L : List ByteArray}
theorem RX.form (h : RX w v L) : ∃ ao c, v = .slice ao L.length c := by
  rcases h with h | ⟨g, rfl, _⟩
  · exact h.form
  · exact ⟨_, _, rfl⟩
theorem RX.lt (h : RX w v L) : ∀ g, v.ownBlock = some g → g < w.heap.size := by
  rcases h with h | ⟨g, rfl, hg, _⟩
  · exact h.lt
  · intro g' e
    cases e
    exact hg
theorem RX.of_block (h : RX w v L) (hs : w.heap.size ≤ W.heap.size) (hb : ∀ g, v.ownBlock = some g → W.heap[g]? = w.heap[g]?) : RX W v L := by
  rcases h with h | ⟨g, rfl, hg, hc⟩
  · exact .inl (h.of_block hb)
  · exact .inr ⟨g, rfl, by omega, fun i s hi => by rw [← hc i s hi]; exact World.cell?_of_block (a := ⟨g, i, none⟩) (hb g rfl)⟩
theorem RX.below (h : RX w v L) (hb : Below w.heap.size w W) : RX W v L := h.of_block hb.size fun g hg => hb.block _ (h.lt g hg)
theorem RX.read (h : RX w v L) : LX KSJ w v L := by
  rcases h with h | ⟨g, rfl, hg, hc⟩
  · exact h.read
  · refine ⟨_, _, rfl, Nat.le_refl _, fun i hi => ⟨g, 0, rfl, hg, fun j u hu => ?_⟩⟩
    have hj : j = 0 := by
      rcases j with _ | j
      · rfl
      · simp [KSJ] at hu
    subst hj
    have e : u = .string L[i] := by
      simp [KSJ] at hu
      exact hu.symm
    rw [e, show 0 + i * KSJ.k + 0 = i by show 0 + i * 1 + 0 = i; omega]
    exact hc i _ (List.getElem?_eq_getElem hi)
theorem flatS (L : List ByteArray) : flatE KSJ L = L.map Value.string := by
  induction L with
  | nil => rfl
  | cons a r ih => rw [flatE_cons, ih]; rfl
end
theorem wpAppR {w : World} {ops : Array Oper} {rest : List Oper} {o : Oper} {a : Act} {Q : Exit → Act → World → Prop} (hgd : o.guard = none) (sl y : Operand)
    (ho : o.op = .call { callee := .builtin .append, args := #[sl, y], argTypes := #[63, 63] }) (vs : Value) (L : List ByteArray) (hx : a.eval sl = vs) (hown : RX w vs L) (ad : Addr) (m c : Nat) (N : List ByteArray)
    (hy : a.eval y = .slice (some ad) m c) (hm : m = N.length) (h0 : 0 < m) (hnews : ∀ j u, (flatE KSJ N)[j]? = some u → w.cell? (ad.add j) = some u) (hsm : (L.length + m) * 16 ≤ 140737488355328) (h63 : L.length + m ≤ maxLen)
    (h : ∀ v' w', OX KSJ w' v' (L ++ N) → Onto w w' vs v' → wpList Tryz.prog ops Q rest (a.put o.dst v') w') : wpList Tryz.prog ops Q (o :: rest) a w := by
  rcases hown with hown | ⟨g, rfl, hg, hc⟩
  · obtain ⟨v', w', hr, h1, h2⟩ := KSJ.app (ty := o.type) hown ad m c N hm hnews hsm h63
    refine wpList_plain hgd fun K hK => ?_
    unfold Oper.wp execOp
    simp only [ho, resolve, invoke, builtin, Sem.run_bind, Sem.run_pure, Result.andThen_ok, List.map_toArray, List.map_cons, List.map_nil, hx, hy]
    rw [show (Builtin.append_ #[63, 63] o.type #[vs, .slice (some ad) m c]).run Tryz.prog w = .ok v' w' from hr]
    exact hK _ _ (h v' w' h1 h2)
  · obtain ⟨i0, z, hi, hz0, hzs, hz1, hz2⟩ := KSJ.parts
    obtain ⟨v', w', hr, h1, h2⟩ := run_append_arg_grows (P := Tryz.prog) w 63 o.type 9 i0 z 1 16 KSJ.sl hi hz0 hz1 hz2 hzs (by decide) ⟨g, 0, none⟩ L.length L.length (flatE KSJ L) (by rw [flatE_len]; rfl) (fun j u hj => by
      rw [flatS, List.getElem?_map] at hj
      cases hl : L[j]? with
      | none => rw [hl] at hj; cases hj
      | some s =>
        rw [hl] at hj
        cases hj
        rw [Addr.add_lit, Nat.zero_add]
        exact hc j s hl) ad m c (flatE KSJ N) (by rw [flatE_len, hm]; rfl) hnews (by omega) h63 hsm
    refine wpList_plain hgd fun K hK => ?_
    unfold Oper.wp execOp
    simp only [ho, resolve, invoke, builtin, Sem.run_bind, Sem.run_pure, Result.andThen_ok, List.map_toArray, List.map_cons, List.map_nil, hx, hy]
    rw [show (Builtin.append_ #[63, 63] o.type #[.slice (some ⟨g, 0, none⟩) L.length L.length, .slice (some ad) m c]).run Tryz.prog w = .ok v' w' from hr]
    refine hK _ _ (h v' w' ?_ ⟨?_, ?_⟩)
    · obtain ⟨q1, q2⟩ := h1
      rw [← flatE_app, hm, ← List.length_append] at q1
      rw [← flatE_app, hm, ← List.length_append] at q2
      refine ⟨q1, ?_⟩
      rcases q2 with q2 | ⟨g', cap, cur, e, hb, r⟩
      · exact .inl q2
      · exact .inr ⟨g', cap, cur, e, Nat.zero_le _, r⟩
    · exact ⟨h2.os, h2.tape, h2.output, h2.size, fun k hk hn => h2.block k hk (by simp)⟩
    · rcases h1.2 with ⟨rfl, hz⟩ | ⟨g', cap, cur, rfl, hb, r⟩
      · omega
      · exact .inr ⟨g', rfl, hb⟩
/-- A journal. -/
structure Jr where
  nm : ByteArray
  ep : Nat
  recs : List ByteArray
  torn : Nat
  dead : Bool
def Jr.cells (J : Jr) (gd : Nat) (v : Value) : Array Value := #[.pointer (some ⟨gd, 0, none⟩), .string J.nm, .int .u64 (J.ep : Int), v, .int .i64 (J.torn : Int), .bool J.dead]
/-- Nothing of B may be written. -/
def K0 : Nat → Prop := fun _ => False
theorem Fr.k0 {w w' : World} (h : Fr K0 w w') : Below w.heap.size w w' := h.below (Nat.le_refl _) fun g hg => hg.elim
theorem Below.k0 {w w' : World} (h : Below w.heap.size w w') : Fr K0 w w' := Fr.of_below h
/-- The table of rounds stands, and is not among K. -/
def KB (K : Nat → Prop) (B : World) : Prop := Kg B ∧ ¬ K 0
theorem Kg.of_fr {K : Nat → Prop} {B w : World} (h : Kg B) (hn : ¬ K 0) (f : Fr K B w) : Kg w := fun j hj => by
  rw [← h j hj]
  exact World.cell?_of_block (a := ⟨0, j, none⟩) (f.block _ h.lt hn)
theorem KB.at_ {K : Nat → Prop} {B w : World} (h : KB K B) (f : Fr K B w) : Kg w := h.1.of_fr h.2 f
theorem Fr.next {K : Nat → Prop} {B w w' : World} (h : Fr K B w) (b : Below w.heap.size w w') : Fr K B w' := h.trans' (Fr.of_below b)
/-- A disk at block gd: of the blocks of B it has those of K alone. -/
structure DBk (K : Nat → Prop) (B w : World) (gd : Nat) (x : StD) (T : Nat → Prop) : Prop where
  dk : DK w gd x T
  bel : Fr K B w
  far : ∀ g, T g → K g ∨ B.heap.size ≤ g
/-- A journal at block gj on a disk at block gd: of the blocks of B they have those of K alone. -/
structure JB (K : Nat → Prop) (B w : World) (gj gd : Nat) (J : Jr) (x : StD) (T : Nat → Prop) (v : Value) : Prop where
  dk : DK w gd x T
  bel : Fr K B w
  far : ∀ g, T g → K g ∨ B.heap.size ≤ g
  row : w.heap[gj]? = some (.cells (J.cells gd v) 117 (0, 0))
  own : RX w v J.recs
  jfar : K gj ∨ B.heap.size ≤ gj
  jT : ¬ T gj
  vfar : ∀ g, v.ownBlock = some g → (K g ∨ B.heap.size ≤ g) ∧ ¬ T g ∧ g ≠ gj
section
variable {K : Nat → Prop} {B w w' : World} {gj gd : Nat} {J : Jr} {x x' : StD} {T : Nat → Prop} {v v' : Value}
theorem DK.frame (h : DK w gd x T) (hs : w.heap.size ≤ w'.heap.size) (e : ∀ g, T g → w'.heap[g]? = w.heap[g]?) : DK w' gd x T := by
  obtain ⟨S1, S2, mn, ms, vo, vp, h⟩ := h
  exact ⟨S1, S2, mn, ms, vo, vp, h.frame hs e⟩
/-- What a call may write that writes to blocks of S, which are K's or new. -/
theorem Fr.far {S : Nat → Prop} (h : Fr K B w) (f : Fr S w w') (hS : ∀ g, S g → K g ∨ B.heap.size ≤ g) : Fr K B w' :=
  ⟨f.os.trans h.os, f.tape.trans h.tape, f.output.trans h.output, Nat.le_trans h.size f.size, fun k hk hn => (f.block k (Nat.lt_of_lt_of_le hk h.size) fun e => by
    rcases hS k e with c | c
    · exact hn c
    · omega).trans (h.block k hk hn)⟩
theorem DBk.step (h : DBk K B w gd x T) (hd : DK w' gd x' (grow T w w') ∧ Fr T w w') : DBk K B w' gd x' (grow T w w') :=
  ⟨hd.1, h.bel.far hd.2 h.far, fun g hg => by
    rcases hg with hg | ⟨hg, _⟩
    · exact h.far g hg
    · exact .inr (Nat.le_trans h.bel.size hg)⟩
theorem DBk.next (h : DBk K B w gd x T) (hb : Below w.heap.size w w') : DBk K B w' gd x T := ⟨h.dk.below hb, h.bel.next hb, h.far⟩
theorem JB.lt (h : JB K B w gj gd J x T v) : gj < w.heap.size := lt_heap h.row
theorem JB.db (h : JB K B w gj gd J x T v) : DBk K B w gd x T := ⟨h.dk, h.bel, h.far⟩
theorem JB.next (h : JB K B w gj gd J x T v) (hb : Below w.heap.size w w') : JB K B w' gj gd J x T v :=
  ⟨h.dk.below hb, h.bel.next hb, h.far, (hb.block gj h.lt).trans h.row, h.own.below hb, h.jfar, h.jT, h.vfar⟩
theorem JB.disk (h : JB K B w gj gd J x T v) (hd : DK w' gd x' (grow T w w') ∧ Fr T w w') : JB K B w' gj gd J x' (grow T w w') v := by
  have d := h.db.step hd
  refine ⟨d.dk, d.bel, d.far, (hd.2.block gj h.lt h.jT).trans h.row, h.own.of_block hd.2.size fun g hg => hd.2.block g (h.own.lt g hg) (h.vfar g hg).2.1, h.jfar, ?_, fun g hg => ⟨(h.vfar g hg).1, ?_, (h.vfar g hg).2.2⟩⟩
  · rintro (e | ⟨e, _⟩)
    · exact h.jT e
    · have := h.lt
      omega
  · rintro (e | ⟨e, _⟩)
    · exact (h.vfar g hg).2.1 e
    · have := h.own.lt g hg
      omega
/-- Seen from the world at hand. -/
theorem JB.here (h : JB K B w gj gd J x T v) : JB (fun g => T g ∨ g = gj ∨ v.ownBlock = some g) w w gj gd J x T v :=
  ⟨h.dk, Fr.refl _ _, fun g hg => .inl (.inl hg), h.row, h.own, .inl (.inr (.inl rfl)), h.jT, fun g hg => ⟨.inl (.inr (.inr hg)), (h.vfar g hg).2⟩⟩
theorem JB.c0 (h : JB K B w gj gd J x T v) : w.cell? ⟨gj, 0, none⟩ = some (.pointer (some ⟨gd, 0, none⟩)) := by rw [cell_of_row w gj 0 _ _ _ h.row]; rfl
theorem JB.c1 (h : JB K B w gj gd J x T v) : w.cell? ⟨gj, 1, none⟩ = some (.string J.nm) := by rw [cell_of_row w gj 1 _ _ _ h.row]; rfl
theorem JB.c2 (h : JB K B w gj gd J x T v) : w.cell? ⟨gj, 2, none⟩ = some (.int .u64 (J.ep : Int)) := by rw [cell_of_row w gj 2 _ _ _ h.row]; rfl
theorem JB.c3 (h : JB K B w gj gd J x T v) : w.cell? ⟨gj, 3, none⟩ = some v := by rw [cell_of_row w gj 3 _ _ _ h.row]; rfl
theorem JB.c4 (h : JB K B w gj gd J x T v) : w.cell? ⟨gj, 4, none⟩ = some (.int .i64 (J.torn : Int)) := by rw [cell_of_row w gj 4 _ _ _ h.row]; rfl
theorem JB.c5 (h : JB K B w gj gd J x T v) : w.cell? ⟨gj, 5, none⟩ = some (.bool J.dead) := by rw [cell_of_row w gj 5 _ _ _ h.row]; rfl
theorem JB.fz (h : JB K B w gj gd J x T v) (i : Nat) : w.frozen? ⟨gj, i, none⟩ = false := frozen_of_row w gj i _ _ h.row
/-- A cell of the journal is written. -/
theorem JB.set (h : JB K B w gj gd J x T v) (i : Nat) (u : Value) {J' : Jr} (hc : (J.cells gd v).setIfInBounds i u = J'.cells gd v') (ho : RX w v' J'.recs) (hv : ∀ g, v'.ownBlock = some g → (K g ∨ B.heap.size ≤ g) ∧ ¬ T g ∧ g ≠ gj) : JB K B (w.setCell ⟨gj, i, none⟩ u) gj gd J' x T v' := by
  have hs : (w.setCell ⟨gj, i, none⟩ u).heap.size = w.heap.size := by simp [World.setCell]
  have hb : ∀ g, g ≠ gj → (w.setCell ⟨gj, i, none⟩ u).heap[g]? = w.heap[g]? := fun g hg => Below.heap_setCell _ _ _ _ hg
  refine ⟨h.dk.frame (by omega) fun g hg => hb g fun e => h.jT (e ▸ hg), h.bel.far (Fr.setCell (S := fun g => g = gj) w (p := ⟨gj, i, none⟩) rfl u) (fun g hg => hg ▸ h.jfar), h.far, ?_, ho.of_block (by omega) fun g hg => hb g (hv g hg).2.2, h.jfar, h.jT, hv⟩
  have := heap_setCell_same w gj i _ _ u h.row
  rw [this, ← hc]
theorem JB.setDead (h : JB K B w gj gd J x T v) (b : Bool) : JB K B (w.setCell ⟨gj, 5, none⟩ (.bool b)) gj gd { J with dead := b } x T v := h.set 5 _ rfl h.own h.vfar
end
section
set_option maxRecDepth 10000
set_option maxHeartbeats 4000000
variable {K : Nat → Prop} {B w : World} {gj gd : Nat} {J : Jr} {x : StD} {T : Nat → Prop} {v : Value}
theorem deadJ_any (h : JB K B w gj gd J x T v) : Calls Tryz.prog 59 #[.pointer (some ⟨gj, 0, none⟩)] w fun e w' => e = .returned (.bool J.dead) ∧ w' = w := by
  have c5 := h.c5
  clear h
  go_enter Tryz.func59, Tryz.ntmps59
  go_wp2
  go_ret
  exact ⟨rfl, rfl⟩
theorem deadJ_nil (w : World) : Calls Tryz.prog 59 #[.pointer none] w fun e w' => e = .returned (.bool true) ∧ w' = w := by
  go_enter Tryz.func59, Tryz.ntmps59
  go_wp2
  go_ret
  exact ⟨rfl, rfl⟩
theorem lenJ_any (h : JB K B w gj gd J x T v) : Calls Tryz.prog 53 #[.pointer (some ⟨gj, 0, none⟩)] w fun e w' => e = .returned (.int .i64 (J.recs.length : Int)) ∧ w' = w := by
  have c3 := h.c3
  obtain ⟨ao, c, rfl⟩ := h.own.form
  clear h
  go_enter Tryz.func53, Tryz.ntmps53
  go_wp2
  go_ret
  exact ⟨rfl, rfl⟩
theorem lenJ_nil (w : World) : Calls Tryz.prog 53 #[.pointer none] w fun e w' => e = .returned (.int .i64 0) ∧ w' = w := by
  go_enter Tryz.func53, Tryz.ntmps53
  go_wp2
  go_ret
  exact ⟨rfl, rfl⟩
theorem heedJ_any (h : JB K B w gj gd J x T v) (E : Int) : Calls Tryz.prog 61 #[.pointer (some ⟨gj, 0, none⟩), .int .i64 E] w fun e w' => e = .returned (.int .i64 E) ∧ JB K B w' gj gd { J with dead := decide (E = 7) } x T v := by
  have c5 := h.c5
  have f5 := h.fz 5
  have HS := hide (h.setDead (decide (E = 7)))
  clear h
  go_enter Tryz.func61, Tryz.ntmps61
  go_wp2
  go_ret
  exact ⟨rfl, HS.out⟩
/-- A removal of a file that is not there, or may not be done. -/
theorem remove_err (gd : Nat) (x : StD) (T : Nat → Prop) (nm : ByteArray) (w : World) (h : DK w gd x T) (hm : nm.size ≤ maxLen) (hf : fnd x nm ≠ 0) : Calls Tryz.prog 119 #[.pointer (some ⟨gd, 0, none⟩), .string nm] w fun e w' => e = .returned (.int .i64 (fnd x nm)) ∧ Below w.heap.size w w' := by
  have HF := hide (find_any gd x T nm w h hm)
  generalize fnd x nm = E at *
  clear h hm
  go_enter Tryz.func119, Tryz.ntmps119
  go_wp2_with (go_at_call 118; refine HF.out.mono ?_; rintro e w1 ⟨⟨v, rfl, o⟩, hb⟩; have HB := hide hb; clear hb o)
  go_ret
  exact ⟨rfl, HB.out⟩
/-- The name of the file that is to come in the place of another one. -/
def asideN (nm : ByteArray) : ByteArray := nm ++ ⟨#[46, 116, 109, 112]⟩
theorem aside_none (gd : Nat) (x : StD) (T : Nat → Prop) (nm : ByteArray) (w : World) (h : DK w gd x T) (hm : nm.size ≤ 28) (hf : fnd x (asideN nm) = 2) : Calls Tryz.prog 89 #[.pointer (some ⟨gd, 0, none⟩), .string nm] w fun e w' => e = .returned (.int .i64 0) ∧ Below w.heap.size w w' := by
  have HR := hide (remove_err gd x T (asideN nm) w h (by unfold asideN maxLen; rw [ByteArray.size_append]; show nm.size + 4 ≤ _; omega) (by rw [hf]; decide))
  rw [hf] at HR
  unfold asideN at HR
  have hz : (nm.size : Int) ≤ 28 := by omega
  clear h hf
  go_enter Tryz.func89, Tryz.ntmps89
  go_wp2_with (go_at_call 119; refine HR.out.mono ?_; rintro e w1 ⟨rfl, hb⟩; have HB := hide hb; clear hb)
  go_ret
  exact ⟨rfl, HB.out⟩
theorem aside_dead (gd : Nat) (x : StD) (T : Nat → Prop) (nm : ByteArray) (w : World) (h : DK w gd x T) (hm : nm.size ≤ 28) (hf : fnd x (asideN nm) = 7) : Calls Tryz.prog 89 #[.pointer (some ⟨gd, 0, none⟩), .string nm] w fun e w' => e = .returned (.int .i64 7) ∧ Below w.heap.size w w' := by
  have HR := hide (remove_err gd x T (asideN nm) w h (by unfold asideN maxLen; rw [ByteArray.size_append]; show nm.size + 4 ≤ _; omega) (by rw [hf]; decide))
  rw [hf] at HR
  unfold asideN at HR
  have hz : (nm.size : Int) ≤ 28 := by omega
  clear h hf
  go_enter Tryz.func89, Tryz.ntmps89
  go_wp2_with (go_at_call 119; refine HR.out.mono ?_; rintro e w1 ⟨rfl, hb⟩; have HB := hide hb; clear hb)
  go_ret
  exact ⟨rfl, HB.out⟩
/-- Names of journals. -/
def okJ (nm : ByteArray) : Bool := isName (lsD nm) && decide (nm.size ≤ 28)
theorem isNameJ_any (nm : ByteArray) (hm : nm.size ≤ maxLen) (w : World) : Calls Tryz.prog 54 #[.string nm] w fun e w' => e = .returned (.bool (okJ nm)) ∧ Below w.heap.size w w' := by
  have HN := hide (newD_any w)
  have HS := hide fun W T h => sizeD_any w.heap.size ⟨FS.none, FS.none, [], 0, [], false⟩ T nm W h hm
  unfold maxLen at hm
  have hf : fnd ⟨FS.none, FS.none, [], 0, [], false⟩ nm = if isName (lsD nm) then 2 else 70 := by
    unfold fnd rdy
    cases h : isName (lsD nm) <;> simp [FS.none, h]
  rw [hf] at HS
  clear hf
  unfold okJ
  cases hI : isName (lsD nm)
  · rw [hI] at HS
    rw [if_neg (by decide), if_neg (by decide)] at HS
    go_enter Tryz.func54, Tryz.ntmps54
    go_wp2_with (first | (go_at_call 14; refine HN.out.mono ?_; rintro e w1 ⟨rfl, d1, b1⟩; have D1 := hide d1; have B1 := hide b1; clear d1 b1) | (go_at_call 87; refine (HS.out _ _ D1.out).mono ?_; rintro e w2 ⟨rfl, b2⟩; have B2 := hide b2; clear b2))
    go_ret
    exact ⟨rfl, B1.out.trans (B2.out.mono B1.out.size)⟩
  · rw [hI] at HS
    rw [if_pos rfl, if_neg (by decide)] at HS
    have hd : decide ((nm.size : Int) ≤ 28) = decide (nm.size ≤ 28) := by
      apply decide_eq_decide.2
      omega
    go_enter Tryz.func54, Tryz.ntmps54
    go_wp2_with (first | (go_at_call 14; refine HN.out.mono ?_; rintro e w1 ⟨rfl, d1, b1⟩; have D1 := hide d1; have B1 := hide b1; clear d1 b1) | (go_at_call 87; refine (HS.out _ _ D1.out).mono ?_; rintro e w2 ⟨rfl, b2⟩; have B2 := hide b2; clear b2))
    go_ret
    exact ⟨rfl, B1.out.trans (B2.out.mono B1.out.size)⟩
end
end Go.Proofs.YtpffaaalncdjcaaGreatDoor
namespace Go.Proofs.YtpffaaalncdjcaaGreatDoor
open Go.RowKit
open Go.Deep
open Go.Lib
set_option linter.unusedVariables false
section
set_option maxRecDepth 10000
set_option maxHeartbeats 1000000
theorem inOrder_any (n gs cap : Nat) (F : Nat → Nat) (fa ca : Nat → Array Value) (P : Nat → World → Prop) (Q : Int → World → Prop) (hn : n ≤ 1000)
    (hf : ∀ k W, k < n → (callFunc (F k) (fa k ++ ca k)).run Tryz.prog W = .ok (.enter (F k) (fa k ++ ca k)) W)
    (hc : ∀ k W, k < n → P k W → W.cell? ⟨gs, k, none⟩ = some (.func (.func (F k)) (fa k) (ca k)))
    (hs : ∀ k W, k < n → P k W → Calls Tryz.prog (F k) (fa k ++ ca k) W fun e w' => ∃ E : Int, e = .returned (.int .i64 E) ∧ (E = 0 → P (k + 1) w') ∧ (E ≠ 0 → Q E w'))
    (w : World) (h0 : P 0 w) : Calls Tryz.prog 56 #[.slice (some ⟨gs, 0, none⟩) n cap] w fun e w' => (e = .returned (.int .i64 0) ∧ P n w') ∨ ∃ E : Int, E ≠ 0 ∧ e = .returned (.int .i64 E) ∧ Q E w' := by
  have HC := hide hc
  have HF := hide hf
  have HS := hide hs
  have H0 := hide h0
  clear hc hs h0 hf
  go_enter Tryz.func56, Tryz.ntmps56
  go_wp2
  go_loopw [8] (fun i wr => ∃ k : Nat, k ≤ n ∧ i = .int .i64 (k : Int) ∧ Hid (P k wr)) (fun i _ => (n - intOf i).toNat)
  case atStart => exact ⟨0, Nat.zero_le _, rfl, H0⟩
  case round =>
    clear H0
    obtain ⟨k, hk, rfl, hP⟩ := hrel
    by_cases hlt : k < n
    · have h1 : (k : Int) < (n : Int) := by omega
      have h2 : (0 : Int) ≤ (k : Int) := by omega
      have hcell := HC.out k wr hlt hP.out
      have HK := hide (HS.out k wr hlt hP.out)
      have hcf := HF.out k wr hlt
      have e1 : IntKind.i64.wrap ((k : Int) + 1) = k + 1 := wrapI _ (by omega) (by omega)
      go_upto_region 5 with (with_reducible refine HK.out.mono ?_; rintro e w1 ⟨E, rfl, p1, p2⟩; have P1 := hide p1; have P2 := hide p2; clear p1 p2)
      clear hcf hcell HK
      by_cases hE : E = 0
      · subst hE
        have P3 := hide (P1.out rfl)
        clear P1 P2
        go_wp2
        go_round
        case rel => exact ⟨k + 1, by omega, by go_num, P3⟩
        case measure => simp [intOf]; omega
      · have P3 := hide (P2.out hE)
        clear P1 P2
        go_wp2
        go_ret
        exact .inr ⟨E, hE, rfl, P3.out⟩
    · have h1 : ¬ (k : Int) < (n : Int) := by omega
      have hkn : k = n := by omega
      subst hkn
      go_wp2
      go_ret
      exact .inl ⟨rfl, hP.out⟩
end
end Go.Proofs.YtpffaaalncdjcaaGreatDoor
namespace Go.Proofs.YtpffaaalncdjcaaGreatDoor
open Go.RowKit
open Go.Deep
open Go.Lib
set_option linter.unusedVariables false
/-- Rows that stay while a disk works. -/
def Ex (w : World) (T : Nat → Prop) (R : List (Nat × Obj)) : Prop := ∀ p ∈ R, w.heap[p.1]? = some p.2 ∧ ¬ T p.1
section
variable {w w' : World} {T : Nat → Prop} {R : List (Nat × Obj)}
theorem Ex.next (h : Ex w T R) (hb : Below w.heap.size w w') : Ex w' T R := fun p hp => ⟨(hb.block p.1 (lt_heap (h p hp).1)).trans (h p hp).1, (h p hp).2⟩
theorem Ex.disk (h : Ex w T R) (hf : Fr T w w') : Ex w' (grow T w w') R := fun p hp => ⟨(hf.block p.1 (lt_heap (h p hp).1) (h p hp).2).trans (h p hp).1, by
  rintro (e | ⟨e, _⟩)
  · exact (h p hp).2 e
  · have := lt_heap (h p hp).1
    omega⟩
theorem Ex.at_ (h : Ex w T R) {p : Nat × Obj} (hp : p ∈ R) : w.heap[p.1]? = some p.2 := (h p hp).1
end
section
set_option maxRecDepth 10000
set_option maxHeartbeats 1000000
theorem bel_set {W0 Y : World} {g i : Nat} (b : Below W0.heap.size W0 Y) (h : W0.heap.size ≤ g) (u : Value) : Below W0.heap.size W0 (Y.setCell ⟨g, i, none⟩ u) := b.trans ⟨rfl, rfl, rfl, by simp [World.setCell], fun k hk => Below.heap_setCell _ _ _ _ (by show k ≠ g; omega)⟩
theorem bel_new {W0 Y : World} (b : Below W0.heap.size W0 Y) (o : Obj) : Below W0.heap.size W0 (Y.alloc o) := b.alloc b.size o
theorem str_newD {W Y : World} {s : ByteArray} {t : TypeId} (b : Below (W.alloc (.cells #[.string s] t)).drew.heap.size (W.alloc (.cells #[.string s] t)).drew Y) : Y.heap[W.heap.size]? = some (.cells #[.string s] t (0, 0)) :=
  (b.block W.heap.size (by show W.heap.size < (W.alloc (.cells #[.string s] t)).heap.size; simp)).trans (heap_alloc_last W (.cells #[.string s] t))
theorem str_cell {Y : World} {g : Nat} {s : ByteArray} {t : TypeId} (h : Y.heap[g]? = some (.cells #[.string s] t (0, 0))) : Y.cell? ⟨g, 0, none⟩ = some (.string s) := by rw [cell_of_row _ _ 0 _ _ _ h]; rfl
theorem str_set {Y : World} {g : Nat} {s : ByteArray} {t : TypeId} (h : Y.heap[g]? = some (.cells #[.string s] t (0, 0))) (u : Value) : (Y.setCell ⟨g, 0, none⟩ u).heap[g]? = some (.cells #[u] t (0, 0)) := heap_setCell_same Y g 0 _ _ u h
/-- The box of a journal's place. -/
def boxJ (gj : Nat) : Obj := .cells #[.pointer (some ⟨gj, 0, none⟩)] 64
def fTidy (gb : Nat) : Value := .func (.func 88) #[] #[.pointer (some ⟨gb, 0, none⟩)]
def fBegin (gb : Nat) : Value := .func (.func 91) #[] #[.pointer (some ⟨gb, 0, none⟩)]
def fSync (gd : Nat) : Value := .func (.func 83) #[.pointer (some ⟨gd, 0, none⟩)] #[]
theorem hmf (fn : Fn) (first cap : Array Value) (w : World) : (Instr.makeFunc fn first cap).run Tryz.prog w = .ok (.func fn first cap) w := rfl
theorem bs3F (w : World) (a b c : Fn) (a1 a2 b1 b2 c1 c2 : Array Value) : (Instr.buildSlice 118 3 #[(0, .func a a1 a2), (1, .func b b1 b2), (2, .func c c1 c2)]).run Tryz.prog w = .ok (.slice (some ⟨w.heap.size, 0, none⟩) 3 3) (w.alloc (.cells #[.func a a1 a2, .func b b1 b2, .func c c1 c2] 51)) := by kernel_rfl
theorem load_fresh {K : Nat → Prop} {B w : World} {gj gd : Nat} {nm : ByteArray} {x : StD} {T : Nat → Prop} (h : JB K B w gj gd ⟨nm, 0, [], 0, false⟩ x T (.slice none 0 0)) (hm : nm.size ≤ 28) (hf : fnd x nm = 2) : Calls Tryz.prog 55 #[.pointer (some ⟨gj, 0, none⟩)] w fun e w' => ∃ gb gs, e = .returned (.tuple #[.slice (some ⟨gs, 0, none⟩) 3 3, .int .i64 0]) ∧ JB K B w' gj gd ⟨nm, 0, [], 0, false⟩ x T (.slice none 0 0) ∧ Ex w' T [(gb, boxJ gj), (gs, .cells #[fTidy gb, fBegin gb, fSync gd] 51)] := by
  have b0 : Below w.heap.size w (w.alloc (boxJ gj)) := (Below.refl _ _).alloc (Nat.le_refl _) _
  have HJ := hide (h.next b0)
  have rb := heap_alloc_last w (boxJ gj)
  have HR : Hid (∀ W, Below (w.alloc (boxJ gj)).heap.size (w.alloc (boxJ gj)) W → Calls Tryz.prog 90 #[.pointer (some ⟨gd, 0, none⟩), .string nm] W fun e w' => e = .returned (.tuple #[.string ⟨#[]⟩, .int .i64 2]) ∧ Below W.heap.size W w') := fun W hb => by
    have := read_any gd x T nm W (HJ.out.dk.below hb) (by unfold maxLen; omega)
    rw [hf] at this
    exact this
  have HT : Hid (¬ T w.heap.size) := fun e => by
    have := h.dk.lt _ e
    omega
  clear hf
  unfold boxJ at b0 rb HJ HR
  go_enter Tryz.func55, Tryz.ntmps55
  go_upto_region 2 with fail
  generalize hW0 : w.alloc (.cells #[.pointer (some ⟨gj, 0, none⟩)] 64) = W0 at *
  have HC : Hid (∀ W, Below W0.heap.size W0 W → W.cell? ⟨w.heap.size, 0, none⟩ = some (.pointer (some ⟨gj, 0, none⟩)) ∧ W.cell? ⟨gj, 0, none⟩ = some (.pointer (some ⟨gd, 0, none⟩)) ∧ W.cell? ⟨gj, 1, none⟩ = some (.string nm)) := fun W hb => by
    have J := HJ.out.next hb
    refine ⟨?_, J.c0, J.c1⟩
    rw [cell_of_row _ _ 0 _ _ _ ((hb.block _ (lt_heap rb)).trans rb)]
    rfl
  have RB := hide rb
  clear rb h hW0
  go_cut [5, 6] from 10 to 21 (fun s5 s6 wx => ∃ g5, s5 = .pointer (some ⟨g5, 0, none⟩) ∧ s6 = .int .i64 2 ∧ Hid (Below W0.heap.size W0 wx ∧ wx.heap[g5]? = some (.cells #[.string ⟨#[]⟩] 9 (0, 0)) ∧ W0.heap.size ≤ g5))
  case first =>
    go_region_held3 (fun w' => Below W0.heap.size W0 w' ∧ w'.cell? ⟨w.heap.size, 0, none⟩ = some (.pointer (some ⟨gj, 0, none⟩)) ∧ w'.cell? ⟨gj, 0, none⟩ = some (.pointer (some ⟨gd, 0, none⟩)) ∧ w'.cell? ⟨gj, 1, none⟩ = some (.string nm)) (first | assumption | exact (fun hb => ⟨hb, HC.out _ hb⟩) ((Below.refl _ _).drew) | exact (fun hb => ⟨hb, HC.out _ hb⟩) (below_next (And.left (by assumption)) be) | exact (fun hb => ⟨hb, HC.out _ hb⟩) (bel_new (And.left (by assumption)) _) | exact (fun hb => ⟨hb, HC.out _ hb⟩) (bel_set (And.left (by assumption)) (by first | exact Nat.le_refl _ | exact sz1.out) _)) (first | (go_at_call 90; refine (HR.out _ (And.left (by assumption))).mono ?_; rintro e w1 ⟨rfl, be⟩; have sz1 : Hid (W0.heap.size ≤ w1.heap.size) := (below_next (And.left (by assumption)) be).size; (try have zr := hide (str_newD be)); (try have z1 := str_cell zr.out); (try have z2 := frozen_of_row _ _ 0 _ _ zr.out)))
    all_goals (go_wp2_with fail; go_meet)
    all_goals first | exact ⟨_, rfl, rfl, And.left (by assumption), heap_alloc_last _ _, sz1.out⟩ | exact ⟨_, rfl, rfl, And.left (by assumption), str_set zr.out _, Nat.le_refl _⟩
  obtain ⟨g5, rfl, rfl, HX⟩ := hcut
  have hc := HC.out wc HX.out.1
  have k1 := hc.1
  have k2 := hc.2.1
  have k3 := str_cell HX.out.2.1
  have hbs := bs3F wc
  clear hc HC HR
  have FIN : Hid (JB K B (wc.alloc (.cells #[fTidy w.heap.size, fBegin w.heap.size, fSync gd] 51)) gj gd ⟨nm, 0, [], 0, false⟩ x T (.slice none 0 0) ∧ Ex (wc.alloc (.cells #[fTidy w.heap.size, fBegin w.heap.size, fSync gd] 51)) T [(w.heap.size, boxJ gj), (wc.heap.size, .cells #[fTidy w.heap.size, fBegin w.heap.size, fSync gd] 51)]) := by
    have b2 := bel_new HX.out.1 (.cells #[fTidy w.heap.size, fBegin w.heap.size, fSync gd] 51)
    have b1 := HX.out.1
    have lt := HJ.out.dk.lt
    refine ⟨HJ.out.next b2, fun p hp => ?_⟩
    rcases List.mem_cons.1 hp with rfl | hp
    · exact ⟨(b2.block _ (lt_heap RB.out)).trans RB.out, HT.out⟩
    · rcases List.mem_cons.1 hp with rfl | hp
      · refine ⟨heap_alloc_last wc _, fun e => ?_⟩
        have h1 := lt _ e
        have h2 := b1.size
        have h3 : W0.heap.size ≤ wc.heap.size := h2
        omega
      · cases hp
  unfold fTidy fBegin fSync at FIN
  go_wp2
  go_ret2
  exact ⟨_, _, rfl, FIN.out⟩
theorem load_dead {K : Nat → Prop} {B w : World} {gj gd : Nat} {nm : ByteArray} {x : StD} {T : Nat → Prop} (h : JB K B w gj gd ⟨nm, 0, [], 0, false⟩ x T (.slice none 0 0)) (hm : nm.size ≤ 28) (hf : fnd x nm = 7) : Calls Tryz.prog 55 #[.pointer (some ⟨gj, 0, none⟩)] w fun e w' => e = .returned (.tuple #[.slice none 0 0, .int .i64 7]) ∧ Below w.heap.size w w' := by
  have b0 : Below w.heap.size w (w.alloc (boxJ gj)) := (Below.refl _ _).alloc (Nat.le_refl _) _
  have HJ := hide (h.next b0)
  have rb := heap_alloc_last w (boxJ gj)
  have HR : Hid (∀ W, Below (w.alloc (boxJ gj)).heap.size (w.alloc (boxJ gj)) W → Calls Tryz.prog 90 #[.pointer (some ⟨gd, 0, none⟩), .string nm] W fun e w' => e = .returned (.tuple #[.string ⟨#[]⟩, .int .i64 7]) ∧ Below W.heap.size W w') := fun W hb => by
    have := read_any gd x T nm W (HJ.out.dk.below hb) (by unfold maxLen; omega)
    rw [hf] at this
    exact this
  have HT : Hid (¬ T w.heap.size) := fun e => by
    have := h.dk.lt _ e
    omega
  clear hf
  unfold boxJ at b0 rb HJ HR
  go_enter Tryz.func55, Tryz.ntmps55
  go_upto_region 2 with fail
  generalize hW0 : w.alloc (.cells #[.pointer (some ⟨gj, 0, none⟩)] 64) = W0 at *
  have HC : Hid (∀ W, Below W0.heap.size W0 W → W.cell? ⟨w.heap.size, 0, none⟩ = some (.pointer (some ⟨gj, 0, none⟩)) ∧ W.cell? ⟨gj, 0, none⟩ = some (.pointer (some ⟨gd, 0, none⟩)) ∧ W.cell? ⟨gj, 1, none⟩ = some (.string nm)) := fun W hb => by
    have J := HJ.out.next hb
    refine ⟨?_, J.c0, J.c1⟩
    rw [cell_of_row _ _ 0 _ _ _ ((hb.block _ (lt_heap rb)).trans rb)]
    rfl
  have RB := hide rb
  clear rb h hW0
  go_cut [5, 6] from 10 to 21 (fun s5 s6 wx => ∃ g5, s5 = .pointer (some ⟨g5, 0, none⟩) ∧ s6 = .int .i64 7 ∧ Hid (Below W0.heap.size W0 wx ∧ wx.heap[g5]? = some (.cells #[.string ⟨#[]⟩] 9 (0, 0)) ∧ W0.heap.size ≤ g5))
  case first =>
    go_region_held3 (fun w' => Below W0.heap.size W0 w' ∧ w'.cell? ⟨w.heap.size, 0, none⟩ = some (.pointer (some ⟨gj, 0, none⟩)) ∧ w'.cell? ⟨gj, 0, none⟩ = some (.pointer (some ⟨gd, 0, none⟩)) ∧ w'.cell? ⟨gj, 1, none⟩ = some (.string nm)) (first | assumption | exact (fun hb => ⟨hb, HC.out _ hb⟩) ((Below.refl _ _).drew) | exact (fun hb => ⟨hb, HC.out _ hb⟩) (below_next (And.left (by assumption)) be) | exact (fun hb => ⟨hb, HC.out _ hb⟩) (bel_new (And.left (by assumption)) _) | exact (fun hb => ⟨hb, HC.out _ hb⟩) (bel_set (And.left (by assumption)) (by first | exact Nat.le_refl _ | exact sz1.out) _)) (first | (go_at_call 90; refine (HR.out _ (And.left (by assumption))).mono ?_; rintro e w1 ⟨rfl, be⟩; have sz1 : Hid (W0.heap.size ≤ w1.heap.size) := (below_next (And.left (by assumption)) be).size; (try have zr := hide (str_newD be)); (try have z1 := str_cell zr.out); (try have z2 := frozen_of_row _ _ 0 _ _ zr.out)))
    all_goals (go_wp2_with fail; go_meet)
    all_goals first | exact ⟨_, rfl, rfl, And.left (by assumption), heap_alloc_last _ _, sz1.out⟩ | exact ⟨_, rfl, rfl, And.left (by assumption), str_set zr.out _, Nat.le_refl _⟩
  obtain ⟨g5, rfl, rfl, HX⟩ := hcut
  have hc := HC.out wc HX.out.1
  have k1 := hc.1
  have k2 := hc.2.1
  have k3 := str_cell HX.out.2.1
  have hbs := bs3F wc
  clear hc HC HR
  clear hbs
  go_wp2
  go_ret2
  exact ⟨rfl, b0.trans (HX.out.1.mono b0.size)⟩
end
end Go.Proofs.YtpffaaalncdjcaaGreatDoor
