/- Disks: Part, Changes; the errors of Move. Disks: Part whole; a copy of no files. Disks: a copy of files, whether there is a map or none. Disks: Clone. Maps of names to texts. Disks: Sure. The document's files: find, without. The document's files: without. -/
import Derived.Test.YtppooipamibhoaaGreatDoorX20
import Derived.Test.YtppooipamibhoaaGreatDoorX12
namespace Go.Proofs.YtppooipamibhoaaGreatDoor
open Go.RowKit
open Go.Deep
open Go.Lib
set_option linter.unusedVariables false
theorem sub_own {w : World} {v : Value} {l : List UInt8} (h : Own w v l) (k n : Nat) (hk : k + n ≤ l.length) : ∃ r, (∀ W, (Instr.sliceAt 258 v (some (.int .i64 (k : Int))) (some (.int .i64 ((k : Int) + n))) none).run Tryz.prog W = .ok r W) ∧ (convert 258 9 r).run Tryz.prog w = .ok (.string ⟨((l.drop k).take n).toArray⟩) w := by
  have hsz : ∀ W, (sizeOf 5).run Tryz.prog W = .ok 1 W := fun W => by kernel_rfl
  rcases h.2 with ⟨rfl, h0⟩ | ⟨g, cap, cur, rfl, hb, hg, hn, hm, hz, ht⟩
  · have : l = [] := List.eq_nil_of_length_eq_zero h0
    subst this
    have hk0 : k = 0 := by simp at hk; omega
    have hn0 : n = 0 := by simp at hk; omega
    subst hk0 hn0
    exact ⟨.slice none 0 0, fun W => by kernel_rfl, run_convert_bytes_nil (P := Tryz.prog) w 258 5 Tryz.underlying258 Tryz.underlying5 0 0 9 Tryz.underlying9⟩
  · have k0 : (0 : Int) ≤ (k : Int) := by omega
    have k1 : (k : Int) ≤ (k : Int) + n := by omega
    have k2 : (k : Int) + n ≤ (cap : Int) := by omega
    have hl : ((l.drop k).take n).length = n := by rw [List.length_take, List.length_drop]; omega
    by_cases hc : cap = k
    · have hn0 : n = 0 := by omega
      subst hn0
      refine ⟨.slice (some ⟨g, 0, none⟩) 0 (cap - k), fun W => ?_, ?_⟩
      · go_simp <;> (intros; omega)
      · have := run_convert_bytes_back (P := Tryz.prog) w 258 9 5 ⟨g, 0, none⟩ (cap - k) [] Tryz.underlying258 Tryz.underlying5 Tryz.underlying9 (fun j hj => by simp at hj)
        simpa using this
    · refine ⟨.slice (some ⟨g, k, none⟩) n (cap - k), fun W => ?_, ?_⟩
      · go_simp <;> (intros; omega)
      · have := run_convert_bytes_back (P := Tryz.prog) w 258 9 5 ⟨g, k, none⟩ (cap - k) ((l.drop k).take n) Tryz.underlying258 Tryz.underlying5 Tryz.underlying9 (fun j hj => by
          have hj' : j < n := by omega
          have e := World.ownsRow.cells h rfl (k + j) (.int .u8 ((l[k + j]'(by omega)).toNat : Int)) (by simp [cellsL, show k + j < l.length by omega])
          have hadd : (⟨g, k, none⟩ : Addr).add j = ⟨g, k + j, none⟩ := by unfold Addr.add; split <;> simp_all
          rw [hadd]
          have hadd0 : (⟨g, 0, none⟩ : Addr).add (k + j) = ⟨g, k + j, none⟩ := by unfold Addr.add; split <;> simp_all
          simp only [List.getElem_take, List.getElem_drop]
          rw [← hadd0]
          exact e)
        rw [hl] at this
        exact this
/-- The error of a move. -/
def mvE (x : StD) (a b : ByteArray) : Int := if rdy x.dead [a, b] = 0 then fnd x a else rdy x.dead [a, b]
section
set_option maxRecDepth 10000
set_option maxHeartbeats 4000000
/-- What Part answers. -/
def ptE (x : StD) (nm : ByteArray) (k n : Int) : Int := if fnd x nm = 0 then (if k < 0 ∨ n < 0 ∨ ((x.now.at (lsD nm)).length : Int) < k ∨ ((x.now.at (lsD nm)).length : Int) - k < n then 1 else 0) else fnd x nm
def ptL (x : StD) (nm : ByteArray) (k n : Int) : List UInt8 := if ptE x nm k n = 0 then ((x.now.at (lsD nm)).drop k.toNat).take n.toNat else []
theorem part_ok (gd : Nat) (x : StD) (T : Nat → Prop) (nm : ByteArray) (k n : Nat) (w : World) (h : DK w gd x T) (hm : nm.size ≤ maxLen) (hf : fnd x nm = 0) (hk : k + n ≤ (x.now.at (lsD nm)).length) (hb : (x.now.at (lsD nm)).length ≤ 16777216) : Calls Tryz.prog 121 #[.pointer (some ⟨gd, 0, none⟩), .string nm, .int .i64 (k : Int), .int .i64 (n : Int)] w fun e w' => e = .returned (.tuple #[.string ⟨(((x.now.at (lsD nm)).drop k).take n).toArray⟩, .int .i64 0]) ∧ Below w.heap.size w w' := by
  have HF := hide (find_any gd x T nm w h hm)
  rw [hf] at HF
  rw [if_pos rfl] at HF
  clear h hm hf
  generalize x.now.at (lsD nm) = L at *
  have k0 : ¬ (k : Int) < 0 := by omega
  have n0 : ¬ (n : Int) < 0 := by omega
  have KL : Hid (∀ m : Nat, m = L.length → ¬ (k : Int) > (m : Int) ∧ IntKind.i64.wrap ((m : Int) - k) = (m : Int) - k ∧ ¬ (n : Int) > (m : Int) - k) := fun m e => ⟨by omega, wrapI _ (by omega) (by omega), by omega⟩
  have e2 : IntKind.i64.wrap ((k : Int) + n) = (k : Int) + n := wrapI _ (by omega) (by omega)
  have HK := hide hk
  clear hk hb
  go_enter Tryz.func121, Tryz.ntmps121
  go_upto_region 2 with (go_at_call 196; refine HF.out.mono ?_; rintro e w1 ⟨⟨v, rfl, o⟩, hb⟩; have HB := hide hb; obtain ⟨r, s1, s2⟩ := sub_own o k n HK.out; obtain ⟨ao, m, c, rfl, hn⟩ := o.form; have q := KL.out m hn.out; have q1 := q.1; have q2 := q.2.1; have q3 := q.2.2; clear hb o hn q)
  clear HF KL HK
  go_wp2
  go_ret2
  exact ⟨rfl, HB.out⟩
end
end Go.Proofs.YtppooipamibhoaaGreatDoor
namespace Go.Proofs.YtppooipamibhoaaGreatDoor
open Go.RowKit
open Go.Deep
open Go.Lib
set_option linter.unusedVariables false
section
set_option maxRecDepth 10000
set_option maxHeartbeats 4000000
theorem part_none (gd : Nat) (x : StD) (T : Nat → Prop) (nm : ByteArray) (k n : Int) (w : World) (h : DK w gd x T) (hm : nm.size ≤ maxLen) (hf : fnd x nm ≠ 0) : Calls Tryz.prog 121 #[.pointer (some ⟨gd, 0, none⟩), .string nm, .int .i64 k, .int .i64 n] w fun e w' => e = .returned (.tuple #[.string ⟨#[]⟩, .int .i64 (fnd x nm)]) ∧ Below w.heap.size w w' := by
  have HF := hide (find_any gd x T nm w h hm)
  have hf2 : (fnd x nm != 0) = true := by simpa using hf
  have hf4 : (fnd x nm == 0) = false := by simpa using hf
  clear h hm
  generalize fnd x nm = E at *
  go_enter Tryz.func121, Tryz.ntmps121
  go_wp2_with (go_at_call 196; refine HF.out.mono ?_; rintro e w1 ⟨⟨v, rfl, o⟩, hb⟩; have HB := hide hb; clear hb; obtain ⟨ao, m, c, rfl, hn⟩ := o.form; clear o hn)
  go_ret2
  exact ⟨rfl, HB.out⟩
theorem part_far (gd : Nat) (x : StD) (T : Nat → Prop) (nm : ByteArray) (k n : Int) (w : World) (h : DK w gd x T) (hm : nm.size ≤ maxLen) (hf : fnd x nm = 0) (hb : (x.now.at (lsD nm)).length ≤ 16777216) (hk : k < 0 ∨ n < 0 ∨ ((x.now.at (lsD nm)).length : Int) < k ∨ ((x.now.at (lsD nm)).length : Int) - k < n) : Calls Tryz.prog 121 #[.pointer (some ⟨gd, 0, none⟩), .string nm, .int .i64 k, .int .i64 n] w fun e w' => e = .returned (.tuple #[.string ⟨#[]⟩, .int .i64 1]) ∧ Below w.heap.size w w' := by
  have HF := hide (find_any gd x T nm w h hm)
  rw [hf] at HF
  rw [if_pos rfl] at HF
  clear h hm hf
  generalize x.now.at (lsD nm) = L at *
  by_cases h0 : k < 0
  · clear hk hb
    go_enter Tryz.func121, Tryz.ntmps121
    go_wp2_with (go_at_call 196; refine HF.out.mono ?_; rintro e w1 ⟨⟨v, rfl, o⟩, hb⟩; have HB := hide hb; clear hb; obtain ⟨ao, m, c, rfl, hn⟩ := o.form; clear o hn)
    go_ret2
    exact ⟨rfl, HB.out⟩
  · by_cases h1 : n < 0
    · clear hk hb
      go_enter Tryz.func121, Tryz.ntmps121
      go_wp2_with (go_at_call 196; refine HF.out.mono ?_; rintro e w1 ⟨⟨v, rfl, o⟩, hb⟩; have HB := hide hb; clear hb; obtain ⟨ao, m, c, rfl, hn⟩ := o.form; clear o hn)
      go_ret2
      exact ⟨rfl, HB.out⟩
    · by_cases h2 : (L.length : Int) < k
      · have KL : Hid (∀ m : Nat, m = L.length → (k : Int) > (m : Int)) := fun m e => by omega
        clear hk hb h2
        go_enter Tryz.func121, Tryz.ntmps121
        go_wp2_with (go_at_call 196; refine HF.out.mono ?_; rintro e w1 ⟨⟨v, rfl, o⟩, hb⟩; have HB := hide hb; clear hb; obtain ⟨ao, m, c, rfl, hn⟩ := o.form; have q := KL.out m hn.out; clear o hn)
        go_ret2
        exact ⟨rfl, HB.out⟩
      · have KL : Hid (∀ m : Nat, m = L.length → ¬ (k : Int) > (m : Int) ∧ IntKind.i64.wrap ((m : Int) - k) = (m : Int) - k ∧ (n : Int) > (m : Int) - k) := fun m e => ⟨by omega, wrapI _ (by omega) (by omega), by omega⟩
        clear hk hb h2
        go_enter Tryz.func121, Tryz.ntmps121
        go_wp2_with (go_at_call 196; refine HF.out.mono ?_; rintro e w1 ⟨⟨v, rfl, o⟩, hb⟩; have HB := hide hb; clear hb; obtain ⟨ao, m, c, rfl, hn⟩ := o.form; have q := KL.out m hn.out; have q1 := q.1; have q2 := q.2.1; have q3 := q.2.2; clear o hn q)
        go_ret2
        exact ⟨rfl, HB.out⟩
theorem part_any (gd : Nat) (x : StD) (T : Nat → Prop) (nm : ByteArray) (k n : Int) (w : World) (h : DK w gd x T) (hm : nm.size ≤ maxLen) (hb : (x.now.at (lsD nm)).length ≤ 16777216) : Calls Tryz.prog 121 #[.pointer (some ⟨gd, 0, none⟩), .string nm, .int .i64 k, .int .i64 n] w fun e w' => e = .returned (.tuple #[.string ⟨(ptL x nm k n).toArray⟩, .int .i64 (ptE x nm k n)]) ∧ Below w.heap.size w w' := by
  by_cases hf : fnd x nm = 0
  · by_cases hk : k < 0 ∨ n < 0 ∨ ((x.now.at (lsD nm)).length : Int) < k ∨ ((x.now.at (lsD nm)).length : Int) - k < n
    · have e : ptE x nm k n = 1 := by unfold ptE; rw [if_pos hf, if_pos hk]
      unfold ptL
      rw [e]
      exact part_far gd x T nm k n w h hm hf hb hk
    · have e : ptE x nm k n = 0 := by unfold ptE; rw [if_pos hf, if_neg hk]
      unfold ptL
      rw [e, if_pos rfl]
      obtain ⟨k', rfl⟩ := Int.eq_ofNat_of_zero_le (show 0 ≤ k by omega)
      obtain ⟨n', rfl⟩ := Int.eq_ofNat_of_zero_le (show 0 ≤ n by omega)
      exact part_ok gd x T nm k' n' w h hm hf (by omega) hb
  · have e : ptE x nm k n = fnd x nm := by unfold ptE; rw [if_neg hf]
    unfold ptL
    rw [e, if_neg hf]
    exact part_none gd x T nm k n w h hm hf
end
end Go.Proofs.YtppooipamibhoaaGreatDoor
namespace Go.Proofs.YtppooipamibhoaaGreatDoor
open Go.RowKit
open Go.Deep
open Go.Lib
set_option linter.unusedVariables false
section
set_option maxRecDepth 10000
set_option maxHeartbeats 4000000
theorem range_none (W : World) : (Instr.range 230 (.map none)).run Tryz.prog W = .ok (.pointer (some ⟨W.heap.size, 0, none⟩)) (W.alloc (.mapIter none 0 #[] 0)) := by kernel_rfl
theorem next_none (W : World) (r : Nat) (t : TypeId) (h : W.heap[r]? = some (.mapIter none 0 #[] 0)) : (Instr.next (.pointer (some ⟨r, 0, none⟩)) false t).run Tryz.prog W = .ok (.tuple #[.bool false]) W := by
  unfold Instr.next
  have hg : (getObj r).run Tryz.prog W = .ok (.mapIter none 0 #[] 0) W := by
    simp [getObj, Sem.run, h]
  simp only [Sem.run_bind, hg, Result.andThen_ok, Sem.run_pure]
theorem cloneD_nil (w : World) : Calls Tryz.prog 200 #[.map none] w fun e w' => ∃ b2 F2, e = .returned (.map (some b2)) ∧ Fs w' b2 F2 FS.none (fun g => w.heap.size ≤ g ∧ g < w'.heap.size) ∧ Below w.heap.size w w' := by
  have hmk := make_some 0
  have hrg := range_none
  have b1 : Below w.heap.size w ((w.alloc (.map #[] 0)).alloc (.mapIter none 0 #[] 0)) := ((Below.refl _ _).alloc (Nat.le_refl _) _).alloc (by simp) _
  have r1 := heap_alloc_last (w.alloc (.map #[] 0)) (.mapIter none 0 #[] 0)
  have hz1 : (w.alloc (.map #[] 0)).heap.size = w.heap.size + 1 := by simp
  have hz2 : ((w.alloc (.map #[] 0)).alloc (.mapIter none 0 #[] 0)).heap.size = w.heap.size + 1 + 1 := by simp
  rw [hz1] at r1
  have hnx := fun t => next_none _ (w.heap.size + 1) t r1
  have C0 : Hid (Fs ((w.alloc (.map #[] 0)).alloc (.mapIter none 0 #[] 0)) w.heap.size (fun _ => none) FS.none (fun g => w.heap.size ≤ g ∧ g < ((w.alloc (.map #[] 0)).alloc (.mapIter none 0 #[] 0)).heap.size)) :=
    ⟨(Mp.made w).of_block (Below.heap_alloc _ _ _ (by omega)), fun _ => rfl, fun k v l _ hv => (by cases hv), fun k v g _ hv => (by cases hv), fun k k' v v' g _ _ hv => (by cases hv), ⟨Nat.le_refl _, by omega⟩, fun g hg => hg.2⟩
  have B1 := hide b1
  clear b1 r1
  go_enter Tryz.func200, Tryz.ntmps200
  go_wp2
  try rw [hz1]
  clear hz1 hz2 hmk hrg
  generalize (w.alloc (.map #[] 0)).alloc (.mapIter none 0 #[] 0) = W2 at *
  go_loopw [11] (fun _ wr => wr = W2) (fun _ _ => 0)
  case atStart => exact rfl
  case round =>
    subst hrel
    go_wp2
    go_ret
    exact ⟨_, _, rfl, C0.out, B1.out⟩
end
end Go.Proofs.YtppooipamibhoaaGreatDoor
namespace Go.Proofs.YtppooipamibhoaaGreatDoor
open Go.RowKit
open Go.Deep
open Go.Lib
set_option linter.unusedVariables false
theorem clone_fs {w : World} {mo : Option Nat} {f : FS} {S : Nat → Prop} (h : FsO w mo f S) (hn : f.n < 1000000) (hl : ∀ k, (f.at k).length ≤ 140737488355328) : Calls Tryz.prog 200 #[.map mo] w fun e w' => ∃ b2 F2, e = .returned (.map (some b2)) ∧ Fs w' b2 F2 f (fun g => w.heap.size ≤ g ∧ g < w'.heap.size) ∧ Below w.heap.size w w' := by
  rcases h with ⟨rfl, rfl, rfl⟩ | ⟨b, F, rfl, h⟩
  · exact cloneD_nil w
  · exact cloneD_any b F f S w h hn hl
section
variable {ops : Array Oper} {S : World → Prop} {o : Oper} {a : Act}
theorem yl_build (hw : Region.wanted o (yielded ops a.tmps) = true) {t : TypeId} (x : Array (Nat × Operand)) (ho : o.op = .build t x) (y : Array (Nat × Value)) (c : Array Value) (hx : x.map (fun p => (p.1, a.eval p.2)) = y) (hr : ∀ W, (Instr.build t y).run Tryz.prog W = .ok (.agg c) W) : YieldsIf Tryz.prog ops S o (.agg c) a :=
  .inl ⟨hw, fun W hW => by
    unfold execOp
    simp only [ho, hx, hr W, Sem.run_bind, Result.andThen_ok, Sem.run_pure]⟩
end
theorem run_bldD (a b : Nat) (v : Value) (m : Int) (p : Value) (d : Bool) (ao : Option Addr) (n c : Nat) (hv : v = .slice ao n c) (bo : Option Addr) (k e : Nat) (hp : p = .slice bo k e) (w : World) : (Instr.build 233 #[(0, .map (some a)), (1, .map (some b)), (2, v), (3, .int .i64 m), (4, p), (5, .bool d)]).run Tryz.prog w = .ok (.agg #[.map (some a), .map (some b), v, .int .i64 m, p, .bool d]) w := by
  subst hv hp
  kernel_rfl
section
set_option maxRecDepth 10000
set_option maxHeartbeats 8000000
end
end Go.Proofs.YtppooipamibhoaaGreatDoor
namespace Go.Proofs.YtppooipamibhoaaGreatDoor
open Go.RowKit
open Go.Deep
open Go.Maps
set_option linter.unusedVariables false
/-- How a text of a map reads. -/
def txE : Value → Option (DataW Unit × List MemPlace)
  | .string s => some (.lit (.string s.data.toList), [])
  | _ => none
theorem txE_inj {v : Value} {l : List UInt8} {p : List MemPlace} (h : txE v = some (.lit (.string l), p)) : v = .string ⟨l.toArray⟩ := by
  unfold txE at h
  split at h
  · rename_i s
    simp only [Option.some.injEq, Prod.mk.injEq, DataW.lit.injEq, Lit.string.injEq] at h
    rw [← h.1]
  · cases h
theorem zeroTx (w : World) : (zeroValue 9).run Tryz.prog w = .ok (.string ⟨#[]⟩) w := by kernel_rfl
/-- Block b is a map that holds, of each name, the text that G says; n names in all. -/
structure Mt (w : World) (b : Nat) (G : List UInt8 → Option (List UInt8)) (n : Nat) : Prop where
  ex : ∃ D : DataW Unit, w.ownsMap Tryz.prog 9 txE b n D ∧ (∀ k, Maps.has D (.string k) = (G k).isSome) ∧ (∀ k l, G k = some l → ∀ zd, D.atKey (.string k) zd = .lit (.string l)) ∧ Maps.size D = n
def updT (G : List UInt8 → Option (List UInt8)) (k : List UInt8) (l : List UInt8) : List UInt8 → Option (List UInt8) := fun x => if x = k then some l else G x
section
variable {w w' : World} {b n : Nat} {G : List UInt8 → Option (List UInt8)}
theorem tightT {D : DataW Unit} {m : Nat} (h : w.ownsMap Tryz.prog 9 txE b m D) : w.ownsMap Tryz.prog 9 txE b (Maps.size D) D := by
  obtain ⟨es, clock, hb, F, hs, rfl⟩ := h
  exact ⟨es, clock, hb, F, by simp [Maps.size, length_sorted], rfl⟩
theorem Mt.made (w : World) : Mt (w.alloc (.map #[] 0)) w.heap.size (fun _ => none) 0 :=
  ⟨⟨.map [], World.ownsMap_made w _ _ _, fun _ => rfl, fun k v h => (by cases h), rfl⟩⟩
theorem Mt.lt (h : Mt w b G n) : b < w.heap.size := h.ex.choose_spec.1.lt
theorem Mt.of_block (h : Mt w b G n) (e : w'.heap[b]? = w.heap[b]?) : Mt w' b G n := by
  obtain ⟨D, ⟨es, cl, hb, r⟩, r2⟩ := h.ex
  exact ⟨⟨D, ⟨es, cl, e.trans hb, r⟩, r2⟩⟩
end
end Go.Proofs.YtppooipamibhoaaGreatDoor
namespace Go.Proofs.YtppooipamibhoaaGreatDoor
open Go.RowKit
open Go.Deep
open Go.Lib
open Go.Maps
open Go.MapKept Go.ChangeMaps Go.WideElems
set_option linter.unusedVariables false
section
set_option maxRecDepth 10000
set_option maxHeartbeats 4000000
end
theorem Mt.names {w : World} {b n : Nat} {F : List UInt8 → Option (List UInt8)} (h : Mt w b F n) : ∃ ks : List Lit, ks.Nodup ∧ ks.length = n ∧ ∀ x, x ∈ ks ↔ ∃ k, x = .string k ∧ (F k).isSome = true := by
  obtain ⟨D, ho, hh, _, hs⟩ := h.ex
  obtain ⟨es, hD, hp, _⟩ := ho.entries lawS
  obtain ⟨es0, clock, _, Ft, _, hD0⟩ := ho
  have hk : ∀ p ∈ es, ∃ k, p.1 = .string k := fun p hp => by
    rw [hD] at hD0
    injection hD0 with hD0
    rw [hD0] at hp
    obtain ⟨v, hv⟩ := Maps.fit_keys Ft p (mem_sorted.1 hp)
    obtain ⟨s, _, hs, _⟩ := keyS_inv hv
    exact ⟨_, hs⟩
  refine ⟨es.map (·.1), ?_, ?_, fun x => ?_⟩
  · rw [List.nodup_iff_pairwise_ne, List.pairwise_map]
    exact hp
  · rw [List.length_map, ← hs, hD]
    rfl
  · rw [List.mem_map]
    constructor
    · rintro ⟨p, hpe, rfl⟩
      obtain ⟨k, hk'⟩ := hk p hpe
      refine ⟨k, hk', ?_⟩
      rw [← hh, hD, Maps.has_eq, List.any_eq_true]
      exact ⟨p, hpe, by rw [hk']; exact WideAt.sameKey_self trivial⟩
    · rintro ⟨k, rfl, hF⟩
      rw [← hh, hD, Maps.has_eq, List.any_eq_true] at hF
      obtain ⟨p, hpe, hsk⟩ := hF
      exact ⟨p, hpe, WideAt.sameKey_eq hsk⟩
theorem Mt.le_mp {w w' : World} {b b' n n' : Nat} {G : List UInt8 → Option (List UInt8)} {F' : List UInt8 → Option Value} (h : Mt w b G n) (h' : Mp w' b' F' n') (e : ∀ k, (G k).isSome = true → (F' k).isSome = true) : n ≤ n' := by
  obtain ⟨ks, n1, l1, m1⟩ := h.names
  obtain ⟨ks', n2, l2, m2⟩ := h'.names
  rw [← l1, ← l2]
  refine n1.length_le_of_subset fun x hx => ?_
  obtain ⟨k, h1, h2⟩ := (m1 x).1 hx
  exact (m2 x).2 ⟨k, h1, e k h2⟩
theorem Mp.le_mt {w w' : World} {b b' n n' : Nat} {G : List UInt8 → Option (List UInt8)} {F' : List UInt8 → Option Value} (h : Mt w b G n) (h' : Mp w' b' F' n') (e : ∀ k, (F' k).isSome = true → (G k).isSome = true) : n' ≤ n := by
  obtain ⟨ks, n1, l1, m1⟩ := h.names
  obtain ⟨ks', n2, l2, m2⟩ := h'.names
  rw [← l1, ← l2]
  refine n2.length_le_of_subset fun x hx => ?_
  obtain ⟨k, h1, h2⟩ := (m2 x).1 hx
  exact (m1 x).2 ⟨k, h1, e k h2⟩
/-- What is told so far is all that is not left. -/
structure Ct (w wr : World) (f : FS) (D : DataW Unit) (left : Lit → Bool) (G : List UInt8 → Option (List UInt8)) (m : Nat) : Prop where
  mt : Mt wr w.heap.size G m
  get : ∀ k, G k = if Maps.has D (.string k) && !left (.string k) then f.get k else none
  bel : Below w.heap.size w wr
  n : m ≤ f.n
section
set_option maxRecDepth 10000
set_option maxHeartbeats 4000000
end
end Go.Proofs.YtppooipamibhoaaGreatDoor
namespace Go.Proofs.YtppooipamibhoaaGreatDoor
open Go.RowKit
open Go.Deep
open Go.Lib
set_option linter.unusedVariables false
/-- A file: its name and bytes. -/
structure Fi where
  nm : ByteArray
  s : ByteArray
/-- Where a name stands, or -1. -/
def fdI (L : List Fi) (k : ByteArray) : Int := match L.findIdx? (fun x => decide (x.nm = k)) with | some i => (i : Int) | none => -1
theorem fd_at {L : List Fi} {k : ByteArray} (i : Nat) (hi : i < L.length) (hn : ∀ x ∈ L.take i, x.nm ≠ k) (hy : L[i].nm = k) : fdI L k = i := by
  unfold fdI
  have : L.findIdx? (fun x => decide (x.nm = k)) = some i := by
    rw [List.findIdx?_eq_some_iff_getElem]
    refine ⟨hi, by simpa using hy, fun j hj => ?_⟩
    have := hn (L[j]'(by omega)) (by rw [List.mem_take_iff_getElem]; exact ⟨j, by omega, rfl⟩)
    simp [this]
  rw [this]
theorem fd_none {L : List Fi} {k : ByteArray} (hn : ∀ x ∈ L, x.nm ≠ k) : fdI L k = -1 := by
  unfold fdI
  rw [List.findIdx?_eq_none_iff.2 (fun x hx => by simpa using hn x hx)]
theorem tl_ne {a b : ByteArray} (h : a ≠ b) : (a.toList == b.toList) = false := by
  rw [ByteArray.toList_eq, ByteArray.toList_eq]
  refine beq_eq_false_iff_ne.2 fun e => h ?_
  cases a
  cases b
  congr
  exact Array.toList_inj.1 e
theorem tl_same (a : ByteArray) : (a.toList == a.toList) = true := by simp
section
set_option maxRecDepth 10000
set_option maxHeartbeats 2000000
end
end Go.Proofs.YtppooipamibhoaaGreatDoor
namespace Go.Proofs.YtppooipamibhoaaGreatDoor
open Go.RowKit
open Go.Deep
open Go.Lib
set_option linter.unusedVariables false
section
variable {α : Type} {w : World} {ops : Array Oper} {rest : List Oper} {o : Oper} {a : Act} {Q : Exit → Act → World → Prop}
theorem Ek.wpBs1 (E : Ek α) (hgd : o.guard = none) (x : Operand) (ho : o.op = .buildSlice E.t 1 #[(0, x)]) (h : α) (hx : a.eval x = .agg (E.enc h).toArray)
    (hk : wpList Tryz.prog ops Q rest (a.put o.dst (.slice (some ⟨w.heap.size, 0, none⟩) 1 1)) (w.alloc (.cells (E.enc h).toArray E.e))) : wpList Tryz.prog ops Q (o :: rest) a w := by
  refine wpList_plain hgd fun K hK => ?_
  unfold Oper.wp execOp
  simp only [ho, List.map_toArray, List.map_cons, List.map_nil, hx, E.bs1 w h, Sem.run_bind, Result.andThen_ok, Sem.run_pure]
  exact hK _ _ hk
end
theorem at_list {P : Program} {ops : Array Oper} {Q : Exit → Act → World → Prop} {l : List Oper} {a : Act} {w : World} (h : wpList P ops Q l a w) : wpList P ops Q l a w := h
/-- A list under way: an own row that the call has made. -/
structure Lw {α : Type} (E : Ek α) (w W : World) (v : Value) (L : List α) : Prop where
  ox : OX E W v L
  far : ∀ g, v.ownBlock = some g → w.heap.size ≤ g
  bel : Below w.heap.size w W
section
variable {α : Type} {E : Ek α} {w W W' : World} {v v' : Value} {L N : List α}
theorem Lw.next (h : Lw E w W v L) (b : Below W.heap.size W W') : Lw E w W' v L := ⟨h.ox.below b, h.far, below_next h.bel b⟩
theorem Lw.app (h : Lw E w W v L) (o : OX E W' v' N) (on : Onto W W' v v') : Lw E w W' v' N := by
  have g := on.grown
  refine ⟨o, fun k hk => ?_, h.bel.trans ⟨g.os, g.tape, g.output, g.size, fun k hk => g.block k (by have := h.bel.size; omega) (fun e => by have := h.far k e.symm; omega)⟩⟩
  rcases on.lies with e | ⟨b, e, hb⟩
  · exact h.far k (by rw [← e]; exact hk)
  · rw [e] at hk
    cases hk
    exact Nat.le_trans h.bel.size hb
end
/-- Files without a name. -/
def woL (L : List Fi) (k : ByteArray) : List Fi := L.filter fun x => decide (x.nm ≠ k)
theorem wo_le (L : List Fi) (k : ByteArray) : (woL L k).length ≤ L.length := List.length_filter_le _ _
theorem wo_no {L : List Fi} {k : ByteArray} {i : Nat} (hi : i < L.length) (h : L[i].nm = k) : woL (L.take (i + 1)) k = woL (L.take i) k := by
  unfold woL
  rw [List.take_succ_eq_append_getElem hi, List.filter_append]
  simp [h]
theorem wo_yes {L : List Fi} {k : ByteArray} {i : Nat} (hi : i < L.length) (h : L[i].nm ≠ k) : woL (L.take (i + 1)) k = woL (L.take i) k ++ [L[i]] := by
  unfold woL
  rw [List.take_succ_eq_append_getElem hi, List.filter_append]
  simp [h]
section
set_option maxRecDepth 10000
set_option maxHeartbeats 2000000
end
end Go.Proofs.YtppooipamibhoaaGreatDoor
