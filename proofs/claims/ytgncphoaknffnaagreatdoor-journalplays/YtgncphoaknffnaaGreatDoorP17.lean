/- Disks: the contracts of Cut, Move and Loose. Journals: how long a file is; all records; cutting. Journals: all records, and cutting. -/
import Derived.Test.YtgncphoaknffnaaGreatDoorP13
import Derived.Test.YtgncphoaknffnaaGreatDoorP15
import Derived.Test.YtgncphoaknffnaaGreatDoorP16
namespace Go.Proofs.YtgncphoaknffnaaGreatDoor
open Go.RowKit
open Go.Deep
open Go.Lib
set_option linter.unusedVariables false
def ctC (nm : ByteArray) (k : Nat) : Ch := ⟨1, nm, ⟨#[]⟩, k, ⟨#[]⟩⟩
def mvC (a b : ByteArray) : Ch := ⟨2, a, b, 0, ⟨#[]⟩⟩
theorem fnd_some {x : StD} {nm : ByteArray} (h : fnd x nm = 0) : (x.now.get (ls nm)).isSome = true ∧ rdy x.dead [nm] = 0 := by
  unfold fnd at h
  split at h
  · rename_i hr
    split at h
    · rename_i hi
      exact ⟨hi, hr⟩
    · cases h
  · rename_i hr
    exact absurd h hr
theorem ct_ok {f : FS} {nm : ByteArray} {k : Nat} (hb : Bd f) (hn : isName (ls nm) = true) (hk : k ≤ (f.at (ls nm)).length) (hr : (f.get (ls nm)).isSome = true) : okD f (ctC nm k) := by
  have h32 := (name_len hn).2
  have hsz : nm.size ≤ 32 := by simpa using h32
  refine ⟨by simp [ctC], hsz, (by show ByteArray.size ⟨#[]⟩ ≤ 32; decide), fun _ => hk, (by show ByteArray.size ⟨#[]⟩ ≤ 16777216; decide), hb, ⟨?_, fun x => ?_⟩⟩
  · show (if (f.get (ls nm)).isSome then f.n else f.n + 1) ≤ 64
    rw [if_pos hr]
    exact hb.n
  · show ((f.put (ls nm) ((f.at (ls nm)).take k)).at x).length ≤ 16777216
    rw [at_put]
    split
    · rw [List.length_take]
      have := hb.len (ls nm)
      omega
    · exact hb.len x
theorem mv_ok {f : FS} {a b : ByteArray} (hb : Bd f) (ha : isName (ls a) = true) (hn : isName (ls b) = true) (hr : (f.get (ls a)).isSome = true) (h1 : 1 ≤ f.n) : okD f (mvC a b) := by
  have h32 := (name_len ha).2
  have hsz : a.size ≤ 32 := by simpa using h32
  have h33 := (name_len hn).2
  have hsy : b.size ≤ 32 := by simpa using h33
  refine ⟨by simp [mvC], hsz, hsy, fun h => absurd h (by simp [mvC]), (by show ByteArray.size ⟨#[]⟩ ≤ 16777216; decide), hb, ⟨?_, fun x => ?_⟩⟩
  · have h2 : (f.del (ls a)).n = f.n - 1 := by
      show (if (f.get (ls a)).isSome then f.n - 1 else f.n) = _
      rw [if_pos hr]
    have h3 := hb.n
    show (if ((f.del (ls a)).get (ls b)).isSome then (f.del (ls a)).n else (f.del (ls a)).n + 1) ≤ 64
    rw [h2]
    split <;> omega
  · show (((f.del (ls a)).put (ls b) (f.at (ls a))).at x).length ≤ 16777216
    rw [at_put, at_del]
    split
    · exact hb.len _
    · split
      · simp
      · exact hb.len x
section
set_option maxRecDepth 10000
set_option maxHeartbeats 4000000
theorem dcut_ok (gd : Nat) (x : StD) (T : Nat → Prop) (nm : ByteArray) (k : Nat) (w : World) (h : DK w gd x T) (hV : Vd x) (hp : x.plan = []) (hf : fnd x nm = 0) (hn : isName (ls nm) = true) (hk : k ≤ (x.now.at (ls nm)).length) (hmany : x.loose.length < 10000) (hmade : x.made < 1000000) : Calls Tryz.prog 42 #[.pointer (some ⟨gd, 0, none⟩), .string nm, .int .i64 (k : Int)] w fun e w' => e = .returned (.int .i64 0) ∧ DK w' gd (mkC x (ctC nm k)) (grow T w w') ∧ Fr T w w' := by
  have hm : nm.size ≤ maxLen := by
    have := (name_len hn).2
    have e : (ls nm).length = nm.size := by simp
    unfold maxLen
    omega
  have HF := hide (find_any gd x T nm w h hm)
  rw [hf] at HF
  rw [if_pos rfl] at HF
  have HDo : Hid (∀ W, Below w.heap.size w W → Calls Tryz.prog 55 #[.pointer (some ⟨gd, 0, none⟩), .agg #[.int .i64 1, .string nm, .string ⟨#[]⟩, .int .i64 (k : Int), .string ⟨#[]⟩]] W fun e w' => e = .returned (.int .i64 0) ∧ DK w' gd (mkC x (ctC nm k)) (grow T W w') ∧ Fr T W w') := fun W hb => do_any gd x T (ctC nm k) W (h.below hb) hV hp (ct_ok hV.bd hn hk (fnd_some hf).1) hmany hmade
  have HL := hide h.lt
  have k0 : (0 : Int) ≤ (k : Int) := by omega
  have k1 : ¬ ((x.now.at (ls nm)).length : Int) < (k : Int) := by omega
  have HK := hide k1
  clear h hV hp hf hn hmany hmade hm hk k1
  go_enter Tryz.func42, Tryz.ntmps42
  go_wp2_with (first | (go_at_call 49; refine HF.out.mono ?_; rintro e w1 ⟨⟨v, rfl, o⟩, hb⟩; have HB := hide hb; obtain ⟨ao, n, c, rfl, hn⟩ := o.form; have k2 : ¬ (n : Int) < (k : Int) := (by rw [hn.out]; exact HK.out); clear hb o hn) | (go_at_call 55; refine (HDo.out _ HB.out).mono ?_; rintro e w2 ⟨rfl, hd, hf⟩; have HE := hide (dk_grow HB.out HL.out hd hf); clear hd hf))
  go_ret
  exact ⟨rfl, HE.out⟩
theorem two_names (w : World) (a b : ByteArray) (ha : a.size ≤ maxLen) (hb : b.size ≤ maxLen) : NmAt (w.alloc (.cells #[.string a, .string b] 9)) w.heap.size [a, b] := fun i s hs => by
  rcases i with _ | _ | i
  · simp at hs
    subst hs
    exact ⟨by rw [cell_of_row _ _ _ _ _ _ (heap_alloc_last w _)]; rfl, ha⟩
  · simp at hs
    subst hs
    exact ⟨by rw [cell_of_row _ _ _ _ _ _ (heap_alloc_last w _)]; rfl, hb⟩
  · simp at hs
theorem dmove_ok (gd : Nat) (x : StD) (T : Nat → Prop) (a b : ByteArray) (w : World) (h : DK w gd x T) (hV : Vd x) (hp : x.plan = []) (hf : fnd x a = 0) (ha : isName (ls a) = true) (hn : isName (ls b) = true) (h1 : 1 ≤ x.now.n) (hmany : x.loose.length < 10000) (hmade : x.made < 1000000) : Calls Tryz.prog 70 #[.pointer (some ⟨gd, 0, none⟩), .string a, .string b] w fun e w' => e = .returned (.int .i64 0) ∧ DK w' gd (mkC x (mvC a b)) (grow T w w') ∧ Fr T w w' := by
  have hm : a.size ≤ maxLen := by
    have := (name_len ha).2
    have e : (ls a).length = a.size := by simp
    unfold maxLen
    omega
  have hmb : b.size ≤ maxLen := by
    have := (name_len hn).2
    have e : (ls b).length = b.size := by simp
    unfold maxLen
    omega
  have b0 : Below w.heap.size w (w.alloc (.cells #[.string a, .string b] 9)) := (Below.refl _ _).alloc (Nat.le_refl _) _
  have HF := hide (find_any gd x T a _ (h.below b0) hm)
  rw [hf] at HF
  have hrd : rdy x.dead [a, b] = 0 := by
    have h2 := (fnd_some hf).2
    unfold rdy at h2 ⊢
    split at h2
    · cases h2
    · rename_i hd
      rw [if_neg hd, if_pos]
      simp [ha, hn]
  have c5 : (w.alloc (.cells #[.string a, .string b] 9)).cell? ⟨gd, 5, none⟩ = some (.bool x.dead) := by
    obtain ⟨S1, S2, mn, ms, vo, vp, hh⟩ := h.below b0
    exact hh.cell 5 (by decide)
  have HR := hide (ready_any gd x.dead w.heap.size 2 [a, b] _ c5 (two_names w a b hm hmb) (by simp))
  rw [hrd, show [a, b].length = 2 from rfl] at HR
  have HDo : Hid (∀ W, Below w.heap.size w W → Calls Tryz.prog 55 #[.pointer (some ⟨gd, 0, none⟩), .agg #[.int .i64 2, .string a, .string b, .int .i64 0, .string ⟨#[]⟩]] W fun e w' => e = .returned (.int .i64 0) ∧ DK w' gd (mkC x (mvC a b)) (grow T W w') ∧ Fr T W w') := fun W hb => do_any gd x T (mvC a b) W (h.below hb) hV hp (mv_ok hV.bd ha hn (fnd_some hf).1 h1) hmany hmade
  have HL := hide h.lt
  have B0 := hide b0
  clear h hV hp hf hn ha hmany hmade hm hmb h1 b0 hrd c5
  go_enter Tryz.func70, Tryz.ntmps70
  go_wp2_with (first | (go_at_call 54; refine HR.out.mono ?_; rintro e w1 ⟨rfl, hw⟩; subst w1) | (go_at_call 49; refine HF.out.mono ?_; rintro e w1 ⟨⟨v, rfl, o⟩, hb⟩; have HB := hide (B0.out.trans (hb.mono B0.out.size)); clear hb o) | (go_at_call 55; refine (HDo.out _ HB.out).mono ?_; rintro e w2 ⟨rfl, hd, hf⟩; have HE := hide (dk_grow HB.out HL.out hd hf); clear hd hf))
  go_ret
  exact ⟨rfl, HE.out⟩
theorem loose_any (gd : Nat) (x : StD) (T : Nat → Prop) (w : World) (h : DK w gd x T) : Calls Tryz.prog 13 #[.pointer (some ⟨gd, 0, none⟩)] w fun e w' => e = .returned (.int .i64 (x.loose.length : Int)) ∧ w' = w := by
  obtain ⟨S1, S2, mn, ms, vo, vp, h⟩ := h
  have c2 := h.cell 2 (by decide)
  obtain ⟨ao, c, rfl⟩ := loose_form h.loose
  rw [show dc mn ms (.slice ao x.loose.length c) vp x.made x.dead 2 = .slice ao x.loose.length c from rfl] at c2
  clear h
  go_enter Tryz.func13, Tryz.ntmps13
  go_wp2
  go_ret
  exact ⟨rfl, rfl⟩
end
end Go.Proofs.YtgncphoaknffnaaGreatDoor
namespace Go.Proofs.YtgncphoaknffnaaGreatDoor
open Go.RowKit
open Go.Deep
open Go.Lib
set_option linter.unusedVariables false
/-- Texts as bytes. -/
def dl (L : List ByteArray) : List (List UInt8) := L.map fun s => s.data.toList
theorem dl_len (L : List ByteArray) : (dl L).length = L.length := by simp [dl]
theorem dl_app (A B : List ByteArray) : dl (A ++ B) = dl A ++ dl B := by simp [dl]
theorem dl_take (L : List ByteArray) (n : Nat) : dl (L.take n) = (dl L).take n := by simp [dl, List.map_take]
theorem dl_txt (L : List (List UInt8)) : dl (L.map txt) = L := by
  unfold dl
  rw [List.map_map]
  exact List.map_id'' (fun _ => rfl) L
theorem flen_next (L : List ByteArray) (k : Nat) (s : ByteArray) (h : L[k]? = some s) : flen (dl (L.take (k + 1))) = flen (dl (L.take k)) + (16 + s.size) := by
  have hk := (List.getElem?_eq_some_iff.1 h).1
  have he := (List.getElem?_eq_some_iff.1 h).2
  rw [List.take_succ_eq_append_getElem hk, he, dl_app]
  show flen (dl (L.take k) ++ [s.data.toList]) = _
  rw [flen_snoc]
  simp
theorem flen_le (L : List (List UInt8)) (n : Nat) : flen (L.take n) ≤ flen L := by
  unfold flen
  have : (L.map fun s => 16 + s.length).sum = ((L.take n).map fun s => 16 + s.length).sum + ((L.drop n).map fun s => 16 + s.length).sum := by
    rw [← List.sum_append, ← List.map_append, List.take_append_drop]
  omega
theorem LX.cellS {w : World} {g off n c : Nat} {L : List ByteArray} (h : LX KS w (.slice (some ⟨g, off, none⟩) n c) L) (k : Nat) (s : ByteArray) (hk : L[k]? = some s) : w.cell? ⟨g, off + k, none⟩ = some (.string s) := by
  have hlt := (List.getElem?_eq_some_iff.1 hk).1
  have he := (List.getElem?_eq_some_iff.1 hk).2
  have := h.range k hlt 0 (.string L[k]) rfl
  rw [he, show off + k * KS.k + 0 = off + k by show off + k * 1 + 0 = _; omega] at this
  exact this
section
set_option maxRecDepth 10000
set_option maxHeartbeats 2000000
theorem fileLong_any (L : List ByteArray) (v : Value) (w : World) (hv : LX KS w v L) (hb : flen (dl L) ≤ 1099511627776) : Calls Tryz.prog 50 #[v] w fun e w' => e = .returned (.int .i64 (flen (dl L) : Nat)) ∧ w' = w := by
  have HV := hide hv
  obtain ⟨ao, cc, rfl⟩ := hv.form
  have HB := hide hb
  have h16 : 16 * L.length ≤ flen (dl L) := by
    clear hv HV hb HB
    unfold flen
    induction L with
    | nil => simp
    | cons a r ih =>
      simp only [dl, List.map_cons, List.sum_cons, List.length_cons] at ih ⊢
      omega
  clear hv
  go_enter Tryz.func50, Tryz.ntmps50
  go_upto_region 3 with fail
  go_loop [3, 8] (fun lg i => ∃ k : Nat, k ≤ L.length ∧ i = .int .i64 (k : Int) ∧ lg = .int .i64 (flen (dl (L.take k)) : Nat)) (fun lg i => (L.length - intOf i).toNat)
  case atStart => exact ⟨0, Nat.zero_le _, rfl, rfl⟩
  case round =>
    obtain ⟨k, hk, rfl, rfl⟩ := hrel
    by_cases hlt : k < L.length
    · obtain ⟨s, hs⟩ : ∃ s, L[k]? = some s := ⟨_, List.getElem?_eq_getElem hlt⟩
      obtain ⟨g, off, rfl⟩ := HV.out.base (by omega)
      have hc := HV.out.cellS k s hs
      have h1 : (0 : Int) ≤ (k : Int) := by omega
      have h2 : (k : Int) < L.length := by omega
      have h3 := flen_next L k s hs
      have h4 := flen_le (dl L) (k + 1)
      rw [← dl_take] at h4
      have hb := HB.out
      have e1 : IntKind.i64.wrap ((k : Int) + 1) = k + 1 := wrapI _ (by omega) (by omega)
      have e2 : IntKind.i64.wrap (16 + (s.size : Int)) = 16 + (s.size : Int) := wrapI _ (by omega) (by omega)
      have KK : Hid (∀ N : Nat, N = flen (dl (L.take k)) → ((N : Int) + (16 + (s.size : Int)) = (flen (dl (L.take (k + 1))) : Nat))) := fun N hN => by
        rw [h3, hN]
        omega
      have h5 : flen (dl (L.take k)) ≤ 1099511627776 := by omega
      generalize hN : flen (dl (L.take k)) = N at *
      have e3 : IntKind.i64.wrap ((N : Int) + (16 + (s.size : Int))) = (N : Int) + (16 + (s.size : Int)) := wrapI _ (by omega) (by omega)
      have K2 := hide (KK.out N rfl)
      clear h3 h4 hs hN KK
      go_wp2
      go_round
      case rel => exact ⟨k + 1, by omega, by go_num, by rw [← K2.out]⟩
      case measure => simp [intOf]; omega
    · have h2 : ¬ (k : Int) < L.length := by omega
      rw [List.take_of_length_le (by omega)]
      go_wp2
      go_ret
      exact ⟨rfl, rfl⟩
variable {K : Nat → Prop} {B w : World} {gj gd : Nat} {J : Jr} {x : StD} {T : Nat → Prop} {v : Value}
theorem sizeJ_any (h : JB K B w gj gd J x T v) (hb : flen (dl J.recs) ≤ 1099511627776) : Calls Tryz.prog 27 #[.pointer (some ⟨gj, 0, none⟩)] w fun e w' => e = .returned (.int .i64 (flen (dl J.recs) : Nat)) ∧ w' = w := by
  have HL := hide (fileLong_any J.recs v w h.own.read hb)
  have c3 := h.c3
  clear h hb
  go_enter Tryz.func27, Tryz.ntmps27
  go_wp2_with (go_at_call 50; refine HL.out.mono ?_; rintro e w1 ⟨rfl, hw⟩; subst w1)
  go_ret
  exact ⟨rfl, rfl⟩
theorem epochJ_any (h : JB K B w gj gd J x T v) : Calls Tryz.prog 29 #[.pointer (some ⟨gj, 0, none⟩)] w fun e w' => e = .returned (.int .u64 (J.ep : Int)) ∧ w' = w := by
  have c2 := h.c2
  clear h
  go_enter Tryz.func29, Tryz.ntmps29
  go_wp2
  go_ret
  exact ⟨rfl, rfl⟩
theorem tornJ_any (h : JB K B w gj gd J x T v) : Calls Tryz.prog 25 #[.pointer (some ⟨gj, 0, none⟩)] w fun e w' => e = .returned (.int .i64 (J.torn : Int)) ∧ w' = w := by
  have c4 := h.c4
  clear h
  go_enter Tryz.func25, Tryz.ntmps25
  go_wp2
  go_ret
  exact ⟨rfl, rfl⟩
theorem getJ_out (h : JB K B w gj gd J x T v) (i : Int) (hi : i < 0 ∨ (J.recs.length : Int) ≤ i) : Calls Tryz.prog 19 #[.pointer (some ⟨gj, 0, none⟩), .int .i64 i] w fun e w' => e = .returned (.tuple #[.string ⟨#[]⟩, .bool false]) ∧ w' = w := by
  have HL := hide (lenJ_any h)
  clear h
  generalize J.recs.length = n at *
  by_cases h0 : i < 0
  · go_enter Tryz.func19, Tryz.ntmps19
    go_wp2_with (go_at_call 20; refine HL.out.mono ?_; rintro e w1 ⟨rfl, hw⟩; subst w1)
    go_ret2
    exact ⟨rfl, rfl⟩
  · have h1 : (n : Int) ≤ i := by omega
    clear hi
    go_enter Tryz.func19, Tryz.ntmps19
    go_wp2_with (go_at_call 20; refine HL.out.mono ?_; rintro e w1 ⟨rfl, hw⟩; subst w1)
    go_ret2
    exact ⟨rfl, rfl⟩
end
end Go.Proofs.YtgncphoaknffnaaGreatDoor
namespace Go.Proofs.YtgncphoaknffnaaGreatDoor
open Go.RowKit
open Go.Deep
open Go.Lib
set_option linter.unusedVariables false
theorem eqslS (ao : Option Addr) (n c : Nat) (w : World) : (binOp .eql 30 (.slice ao n c) (.slice none 0 0)).run Tryz.prog w = .ok (.bool ao.isNone) w := by
  cases ao <;> kernel_rfl
theorem bs0T (w : World) : (Instr.buildSlice 30 0 #[]).run Tryz.prog w = .ok (.slice (some ⟨w.heap.size, 0, none⟩) 0 0) (w.alloc (.cells #[] 9)) := by kernel_rfl
theorem LX.newsS {w : World} {ad : Addr} {n c : Nat} {L : List ByteArray} (h : LX KS w (.slice (some ad) n c) L) : ∀ j u, (flatE KS L)[j]? = some u → w.cell? (ad.add j) = some u := fun j u hj => by
  rw [flatS, List.getElem?_map] at hj
  cases hl : L[j]? with
  | none => rw [hl] at hj; cases hj
  | some s =>
    rw [hl] at hj
    cases hj
    have hlt := (List.getElem?_eq_some_iff.1 hl).1
    obtain ⟨g, off, e⟩ := h.base (by omega)
    cases e
    rw [Addr.add_lit]
    exact h.cellS j s hl
theorem LX.none_nil {w : World} {n c : Nat} {L : List ByteArray} (h : LX KS w (.slice none n c) L) : L = [] := by
  cases L with
  | nil => rfl
  | cons a r =>
    obtain ⟨g, off, e⟩ := h.base (by simp)
    cases e
theorem RX.parts {w : World} {v : Value} {L : List ByteArray} (h : RX w v L) : (v = .slice none 0 0 ∧ L = []) ∨ ∃ g c, v = .slice (some ⟨g, 0, none⟩) L.length c ∧ L.length ≤ c ∧ g < w.heap.size ∧ ∀ i s, L[i]? = some s → w.cell? ⟨g, i, none⟩ = some (.string s) := by
  rcases h with h | ⟨g, rfl, hg, hc⟩
  · have hr := h.read
    rcases h.2 with ⟨rfl, h0⟩ | ⟨g, cap, cur, rfl, hb, hg, hn, r⟩
    · exact .inl ⟨rfl, List.eq_nil_of_length_eq_zero h0⟩
    · refine .inr ⟨g, cap, rfl, hn, lt_heap hg, fun i s hi => ?_⟩
      have := hr.cellS i s hi
      rwa [Nat.zero_add] at this
  · exact .inr ⟨g, _, rfl, Nat.le_refl _, hg, hc⟩
theorem RX.cut {w : World} {g : Nat} {L : List ByteArray} (hg : g < w.heap.size) (hc : ∀ i s, L[i]? = some s → w.cell? ⟨g, i, none⟩ = some (.string s)) (n : Nat) (hn : n ≤ L.length) : RX w (.slice (some ⟨g, 0, none⟩) n n) (L.take n) := by
  have e : (L.take n).length = n := by rw [List.length_take]; omega
  refine .inr ⟨g, by rw [e], hg, fun i s hi => hc i s ?_⟩
  rw [List.getElem?_take] at hi
  split at hi
  · exact hi
  · cases hi
theorem sl2S (g m c n : Nat) (h : n ≤ c) (w : World) : (Instr.sliceAt 30 (.slice (some ⟨g, 0, none⟩) m c) none (some (.int .i64 (n : Int))) none).run Tryz.prog w = .ok (.slice (some ⟨g, 0, none⟩) n c) w := by
  have hi : (sizeOf 9).run Tryz.prog w = .ok 1 w := by kernel_rfl
  simp [Instr.sliceAt, Instr.slice, run_underlying Tryz.underlying30, Instr.sliceBounds, Instr.sliceBound, asIntOf, h, Result.andThen, hi, addr_add]
theorem sl3S (g m c n : Nat) (h : n ≤ c) (w : World) : (Instr.sliceAt 30 (.slice (some ⟨g, 0, none⟩) m c) none (some (.int .i64 (n : Int))) (some (.int .i64 (n : Int)))).run Tryz.prog w = .ok (.slice (some ⟨g, 0, none⟩) n n) w := by
  have hi : (sizeOf 9).run Tryz.prog w = .ok 1 w := by kernel_rfl
  simp [Instr.sliceAt, Instr.slice, run_underlying Tryz.underlying30, Instr.sliceBounds, Instr.sliceBound, asIntOf, h, Result.andThen, hi, addr_add]
theorem sl2N (w : World) : (Instr.sliceAt 30 (.slice none 0 0) none (some (.int .i64 0)) none).run Tryz.prog w = .ok (.slice none 0 0) w := by kernel_rfl
theorem sl3N (w : World) : (Instr.sliceAt 30 (.slice none 0 0) none (some (.int .i64 0)) (some (.int .i64 0))).run Tryz.prog w = .ok (.slice none 0 0) w := by kernel_rfl
section
set_option maxRecDepth 10000
set_option maxHeartbeats 2000000
theorem cloneS_any (v : Value) (L : List ByteArray) (w : World) (h : LX KS w v L) (hl : L.length ≤ 1099511627776) : Calls Tryz.prog 48 #[v] w fun e w' => ∃ v', e = .returned v' ∧ OX KS w' v' L ∧ Below w.heap.size w w' ∧ ∀ g, v'.ownBlock = some g → w.heap.size ≤ g := by
  obtain ⟨ao, cap, rfl⟩ := h.form
  cases ao with
  | none =>
    have e := h.none_nil
    subst e
    have hq := eqslS none 0 cap
    clear h
    show Calls _ _ #[.slice none 0 cap] _ _
    go_enter Tryz.func48, Tryz.ntmps48
    go_wp2
    go_ret
    exact ⟨_, rfl, OX.nil _, Below.refl _ _, fun g hg => by cases hg⟩
  | some ad =>
    have hq := eqslS (some ad) L.length cap
    have h5 := bs0T
    have HN := hide h.newsS
    have hB : Below w.heap.size w (w.alloc (.cells #[] 9)) := (Below.refl _ _).alloc (Nat.le_refl _) _
    have HM := hide (h.below hB).newsS
    have HL := hide hl
    have O0 : Hid (OX KS (w.alloc (.cells #[] 9)) (.slice (some ⟨w.heap.size, 0, none⟩) 0 0) []) := World.ownsRow_made w #[] 0 (Nat.zero_le _) (Nat.zero_le _) rfl
    have HB := hide hB
    clear h hl hB HN
    go_enter Tryz.func48, Tryz.ntmps48
    go_wp2_with (first | (at_builtin; refine wpAppS rfl _ _ rfl _ [] rfl O0.out ad L.length cap L rfl rfl HM.out (by have := HL.out; simp; omega) (by have := HL.out; unfold maxLen; simp; omega) ?_; intro v' w' ho on; have OB := hide (And.intro ho on); clear ho on))
    go_ret
    obtain ⟨o, on⟩ := OB.out
    have OF := onto_far on (w := w) (fun g hg => by cases hg; exact Nat.le_refl _) HB.out
    exact ⟨_, rfl, by simpa using o, OF.2, OF.1⟩
variable {K : Nat → Prop} {B w : World} {gj gd : Nat} {J : Jr} {x : StD} {T : Nat → Prop} {v : Value}
theorem allJ_any (h : JB K B w gj gd J x T v) (hl : J.recs.length ≤ 1099511627776) : Calls Tryz.prog 28 #[.pointer (some ⟨gj, 0, none⟩)] w fun e w' => ∃ v', e = .returned v' ∧ OX KS w' v' J.recs ∧ Below w.heap.size w w' ∧ ∀ g, v'.ownBlock = some g → w.heap.size ≤ g := by
  have HC := hide (cloneS_any v J.recs w h.own.read hl)
  have c3 := h.c3
  clear h hl
  go_enter Tryz.func28, Tryz.ntmps28
  go_wp2_with (go_at_call 48; refine HC.out.mono ?_; rintro e w1 ⟨v', rfl, h1⟩; have H1 := hide h1; clear h1)
  go_ret
  exact ⟨_, rfl, H1.out⟩
theorem cutJ_arg (h : JB K B w gj gd J x T v) (hd : J.dead = false) (n : Int) (hn : n < 0 ∨ (J.recs.length : Int) < n) : Calls Tryz.prog 24 #[.pointer (some ⟨gj, 0, none⟩), .int .i64 n] w fun e w' => e = .returned (.int .i64 1) ∧ w' = w := by
  have HD := hide (deadJ_any h)
  rw [hd] at HD
  have c3 := h.c3
  obtain ⟨ao, cc, rfl⟩ := h.own.form
  clear h hd
  generalize J.recs.length = m at *
  by_cases h0 : n < 0
  · go_enter Tryz.func24, Tryz.ntmps24
    go_wp2_with (go_at_call 30; refine HD.out.mono ?_; rintro e w1 ⟨rfl, hw⟩; subst w1)
    go_ret
    exact ⟨rfl, rfl⟩
  · have h1 : (m : Int) < n := by omega
    clear hn
    go_enter Tryz.func24, Tryz.ntmps24
    go_wp2_with (go_at_call 30; refine HD.out.mono ?_; rintro e w1 ⟨rfl, hw⟩; subst w1)
    go_ret
    exact ⟨rfl, rfl⟩
theorem cutJ_row (n : Nat) {g c : Nat} (hn : n ≤ J.recs.length) (hcc : J.recs.length ≤ c) (hcl : ∀ i s, J.recs[i]? = some s → w.cell? ⟨g, i, none⟩ = some (.string s)) (h : JB K B w gj gd J x T (.slice (some ⟨g, 0, none⟩) J.recs.length c)) (hd : J.dead = false) (hb : flen (dl J.recs) ≤ 16777216) (hV : Vd x) (hp : x.plan = []) (hf : fnd x J.nm = 0) (hnm : isName (ls J.nm) = true) (hk : flen (dl (J.recs.take n)) ≤ (x.now.at (ls J.nm)).length) (hmany : x.loose.length < 10000) (hmade : x.made < 1000000) : Calls Tryz.prog 24 #[.pointer (some ⟨gj, 0, none⟩), .int .i64 (n : Int)] w fun e w' => e = .returned (.int .i64 0) ∧ ∃ T' v', JB K B w' gj gd { J with recs := J.recs.take n } (mkC x (ctC J.nm (flen (dl (J.recs.take n))))) T' v' := by
  have HD := hide (deadJ_any h)
  rw [hd] at HD
  have HRX : Hid (∀ W, Below w.heap.size w W → LX KS W (.slice (some ⟨g, 0, none⟩) n c) (J.recs.take n)) := fun W b => by
    have hlt : g < w.heap.size := h.own.lt g rfl
    have e : (J.recs.take n).length = n := by rw [List.length_take]; omega
    have := ((RX.cut hlt hcl n hn).below b).read
    obtain ⟨ao, cap, e1, e2, e3⟩ := this
    injection e1 with q1 q2 q3
    subst q1
    exact ⟨_, c, by rw [e], by omega, e3⟩
  have hfl : flen (dl (J.recs.take n)) ≤ 1099511627776 := by
    have := flen_le (dl J.recs) n
    rw [← dl_take] at this
    omega
  have HFL := hide fun W (b : Below w.heap.size w W) => fileLong_any (J.recs.take n) (.slice (some ⟨g, 0, none⟩) n c) W (HRX.out W b) hfl
  have HC := hide fun W (b : Below w.heap.size w W) => dcut_ok gd x T J.nm (flen (dl (J.recs.take n))) W (h.dk.below b) hV hp hf hnm hk hmany hmade
  have HH := hide fun W T' (j : JB K B W gj gd J (mkC x (ctC J.nm (flen (dl (J.recs.take n))))) T' (.slice (some ⟨g, 0, none⟩) J.recs.length c)) => heedJ_any j 0
  have HJ : Hid ({ J with dead := decide ((0 : Int) = 7) } = J) := by
    show _ = _
    rw [show decide ((0 : Int) = 7) = J.dead from hd.symm]
  have HL := hide h.dk.lt
  have s2 := (fun W => sl2S g J.recs.length c n (by omega) W)
  have s3 := (fun W => sl3S g J.recs.length c n (by omega) W)
  have c0 := h.c0
  have c1 := h.c1
  have c3 := h.c3
  have H0 := hide h
  have n0 : (0 : Int) ≤ (n : Int) := by omega
  have n1 : ¬ (J.recs.length : Int) < (n : Int) := by omega
  have HCL := hide hcl
  have HN := hide hn
  clear hcl hn hcc hfl
  clear h hd hb hV hp hf hnm hk hmany hmade
  generalize flen (dl (J.recs.take n)) = F at *
  go_enter Tryz.func24, Tryz.ntmps24
  go_upto_region 5 with (go_at_call 30; refine HD.out.mono ?_; rintro e w1 ⟨rfl, hw⟩; subst w1)
  refine wp_region_held_drew (S := fun W => W.cell? ⟨gj, 0, none⟩ = some (.pointer (some ⟨gd, 0, none⟩)) ∧ W.cell? ⟨gj, 1, none⟩ = some (.string J.nm) ∧ W.cell? ⟨gj, 3, none⟩ = some (.slice (some ⟨g, 0, none⟩) J.recs.length c)) (by kernel_rfl) ⟨c0, c1, c3⟩ (fun hH => ?_)
  refine wpAnyH_take (i := 0) (v := .pointer (some ⟨gj, 0, none⟩)) rfl (by kernel_rfl) (by kernel_rfl) (by kernel_rfl) (fun _ _ _ h => h) (yl_move (by rfl) _ (by rfl) _ (by rfl)) hH ?_
  change wpAnyH _ _ _ _ _ _ _ (Act.put _ (some 19) _) _
  simp only [Act.put, List.setIfInBounds_toArray, List.set_cons_zero, List.set_cons_succ]
  refine wpAnyH_take (i := 1) (v := .pointer (some ⟨gj, 0, none⟩)) rfl (by kernel_rfl) (by kernel_rfl) (by kernel_rfl) (fun _ _ _ h => h) (yl_move (by rfl) _ (by rfl) _ (by rfl)) hH ?_
  change wpAnyH _ _ _ _ _ _ _ (Act.put _ (some 20) _) _
  simp only [Act.put, List.setIfInBounds_toArray, List.set_cons_zero, List.set_cons_succ]
  refine wpAnyH_take (i := 2) (v := .pointer (some ⟨gj, 0, none⟩)) rfl (by kernel_rfl) (by kernel_rfl) (by kernel_rfl) (fun _ _ _ h => h) (.inl ⟨by rfl, fun W _ => by go_simp⟩) hH ?_
  change wpAnyH _ _ _ _ _ _ _ (Act.put _ (some 21) _) _
  simp only [Act.put, List.setIfInBounds_toArray, List.set_cons_zero, List.set_cons_succ]
  refine wpAnyH_take (i := 3) (v := .pointer (some ⟨gj, 0, none⟩)) rfl (by kernel_rfl) (by kernel_rfl) (by kernel_rfl) (fun _ _ _ h => h) (.inl ⟨by rfl, fun W _ => by go_simp⟩) hH ?_
  change wpAnyH _ _ _ _ _ _ _ (Act.put _ (some 22) _) _
  simp only [Act.put, List.setIfInBounds_toArray, List.set_cons_zero, List.set_cons_succ]
  refine wpAnyH_take (i := 4) (v := .pointer (some ⟨gd, 0, none⟩)) rfl (by kernel_rfl) (by kernel_rfl) (by kernel_rfl) (fun _ _ _ h => h) (.inl ⟨by rfl, fun W hS => by have c4 := hS.1; go_simp⟩) hH ?_
  change wpAnyH _ _ _ _ _ _ _ (Act.put _ (some 23) _) _
  simp only [Act.put, List.setIfInBounds_toArray, List.set_cons_zero, List.set_cons_succ]
  refine wpAnyH_take (i := 5) (v := .pointer (some ⟨gj, 0, none⟩)) rfl (by kernel_rfl) (by kernel_rfl) (by kernel_rfl) (fun _ _ _ h => h) (yl_move (by rfl) _ (by rfl) _ (by rfl)) hH ?_
  change wpAnyH _ _ _ _ _ _ _ (Act.put _ (some 24) _) _
  simp only [Act.put, List.setIfInBounds_toArray, List.set_cons_zero, List.set_cons_succ]
  refine wpAnyH_take (i := 6) (v := .pointer (some ⟨gj, 0, none⟩)) rfl (by kernel_rfl) (by kernel_rfl) (by kernel_rfl) (fun _ _ _ h => h) (.inl ⟨by rfl, fun W _ => by go_simp⟩) hH ?_
  change wpAnyH _ _ _ _ _ _ _ (Act.put _ (some 25) _) _
  simp only [Act.put, List.setIfInBounds_toArray, List.set_cons_zero, List.set_cons_succ]
  refine wpAnyH_take (i := 7) (v := .pointer (some ⟨gj, 1, none⟩)) rfl (by kernel_rfl) (by kernel_rfl) (by kernel_rfl) (fun _ _ _ h => h) (.inl ⟨by rfl, fun W _ => by go_simp⟩) hH ?_
  change wpAnyH _ _ _ _ _ _ _ (Act.put _ (some 26) _) _
  simp only [Act.put, List.setIfInBounds_toArray, List.set_cons_zero, List.set_cons_succ]
  refine wpAnyH_take (i := 8) (v := .string J.nm) rfl (by kernel_rfl) (by kernel_rfl) (by kernel_rfl) (fun _ _ _ h => h) (.inl ⟨by rfl, fun W hS => by have c4 := hS.2.1; go_simp⟩) hH ?_
  change wpAnyH _ _ _ _ _ _ _ (Act.put _ (some 27) _) _
  simp only [Act.put, List.setIfInBounds_toArray, List.set_cons_zero, List.set_cons_succ]
  refine wpAnyH_take (i := 9) (v := .pointer (some ⟨gj, 0, none⟩)) rfl (by kernel_rfl) (by kernel_rfl) (by kernel_rfl) (fun _ _ _ h => h) (yl_move (by rfl) _ (by rfl) _ (by rfl)) hH ?_
  change wpAnyH _ _ _ _ _ _ _ (Act.put _ (some 28) _) _
  simp only [Act.put, List.setIfInBounds_toArray, List.set_cons_zero, List.set_cons_succ]
  refine wpAnyH_take (i := 10) (v := .pointer (some ⟨gj, 0, none⟩)) rfl (by kernel_rfl) (by kernel_rfl) (by kernel_rfl) (fun _ _ _ h => h) (.inl ⟨by rfl, fun W _ => by go_simp⟩) hH ?_
  change wpAnyH _ _ _ _ _ _ _ (Act.put _ (some 29) _) _
  simp only [Act.put, List.setIfInBounds_toArray, List.set_cons_zero, List.set_cons_succ]
  refine wpAnyH_take (i := 11) (v := .pointer (some ⟨gj, 3, none⟩)) rfl (by kernel_rfl) (by kernel_rfl) (by kernel_rfl) (fun _ _ _ h => h) (.inl ⟨by rfl, fun W _ => by go_simp⟩) hH ?_
  change wpAnyH _ _ _ _ _ _ _ (Act.put _ (some 30) _) _
  simp only [Act.put, List.setIfInBounds_toArray, List.set_cons_zero, List.set_cons_succ]
  refine wpAnyH_take (i := 12) (v := .slice (some ⟨g, 0, none⟩) J.recs.length c) rfl (by kernel_rfl) (by kernel_rfl) (by kernel_rfl) (fun _ _ _ h => h) (.inl ⟨by rfl, fun W hS => by have c4 := hS.2.2; go_simp⟩) hH ?_
  change wpAnyH _ _ _ _ _ _ _ (Act.put _ (some 31) _) _
  simp only [Act.put, List.setIfInBounds_toArray, List.set_cons_zero, List.set_cons_succ]
  refine wpAnyH_take (i := 13) (v := .int .i64 (n : Int)) rfl (by kernel_rfl) (by kernel_rfl) (by kernel_rfl) (fun _ _ _ h => h) (yl_move (by rfl) _ (by rfl) _ (by rfl)) hH ?_
  change wpAnyH _ _ _ _ _ _ _ (Act.put _ (some 32) _) _
  simp only [Act.put, List.setIfInBounds_toArray, List.set_cons_zero, List.set_cons_succ]
  refine wpAnyH_take (i := 14) (v := .slice (some ⟨g, 0, none⟩) n c) rfl (by kernel_rfl) (by kernel_rfl) (by kernel_rfl) (fun _ _ _ h => h) (yl_slice (by rfl) _ _ _ (by rfl) _ _ (by rfl) _ _ (by rfl) (by rfl) s2) hH ?_
  change wpAnyH _ _ _ _ _ _ _ (Act.put _ (some 33) _) _
  simp only [Act.put, List.setIfInBounds_toArray, List.set_cons_zero, List.set_cons_succ]
  refine wpAnyH_ready (rs := [15]) (by kernel_rfl) (by simp) (AllReadyH.cons rfl (fun K1 hK1 => ?_) AllReadyH.nil)
  go_simp
  refine (HFL.out _ (Below.refl _ _).drew).mono ?_
  rintro e w2 ⟨rfl, hw⟩
  subst w2
  refine hK1.out _ _ ⟨c0, c1, c3⟩ (fun hH => ?_)
  clear hK1
  refine wpAnyH_ready (rs := [16]) (by kernel_rfl) (by simp) (AllReadyH.cons rfl (fun K1 hK1 => ?_) AllReadyH.nil)
  go_simp
  refine (HC.out _ (Below.refl _ _).drew).mono ?_
  rintro e w5 ⟨rfl, hd5, hf5⟩
  have J5 := hide (H0.out.disk (dk_grow (Below.refl w.heap.size w).drew HL.out hd5 hf5))
  clear hd5 hf5
  refine hK1.out _ _ ⟨J5.out.c0, J5.out.c1, J5.out.c3⟩ (fun hH => ?_)
  clear hK1
  refine wpAnyH_ready (rs := [17]) (by kernel_rfl) (by simp) (AllReadyH.cons rfl (fun K1 hK1 => ?_) AllReadyH.nil)
  go_simp
  refine (HH.out _ _ J5.out).mono ?_
  rintro e w6 ⟨rfl, j6⟩
  rw [HJ.out] at j6
  have J6 := hide j6
  clear j6
  refine hK1.out _ _ ⟨J6.out.c0, J6.out.c1, J6.out.c3⟩ (fun hH => ?_)
  clear hK1 J5
  refine wpAnyH_take (i := 18) (v := .int .i64 0) rfl (by kernel_rfl) (by kernel_rfl) (by kernel_rfl) (fun _ _ _ h => h) (.inl ⟨by rfl, fun W _ => by go_simp⟩) hH ?_
  change wpAnyH _ _ _ _ _ _ _ (Act.put _ (some 5) _) _
  simp only [Act.put, List.setIfInBounds_toArray, List.set_cons_zero, List.set_cons_succ]
  refine wpAnyH_done (by kernel_rfl) ?_ _
  have a3 := J6.out.c3
  have f3 := J6.out.fz 3
  have FIN : Hid (∃ T' v', JB K B (w6.setCell ⟨gj, 3, none⟩ (.slice (some ⟨g, 0, none⟩) n n)) gj gd { J with recs := J.recs.take n } (mkC x (ctC J.nm F)) T' v') := by
    have hlt : g < w6.heap.size := J6.out.own.lt g rfl
    have hc6 : ∀ i s, J.recs[i]? = some s → w6.cell? ⟨g, i, none⟩ = some (.string s) := fun i s hi => by
      have := J6.out.own.read.cellS i s hi
      rwa [Nat.zero_add] at this
    exact ⟨_, _, J6.out.set 3 (.slice (some ⟨g, 0, none⟩) n n) rfl (RX.cut hlt hc6 n HN.out) (fun k hk => by cases hk; exact J6.out.vfar g rfl)⟩
  clear c0 c1 c3 H0 HC HH HFL s2
  go_wp2
  go_ret
  exact ⟨rfl, FIN.out⟩
theorem cutJ_nil (h0 : J.recs = []) (h : JB K B w gj gd J x T (.slice none 0 0)) (hd : J.dead = false) (hb : flen (dl J.recs) ≤ 16777216) (hV : Vd x) (hp : x.plan = []) (hf : fnd x J.nm = 0) (hnm : isName (ls J.nm) = true) (hk : flen (dl (J.recs.take 0)) ≤ (x.now.at (ls J.nm)).length) (hmany : x.loose.length < 10000) (hmade : x.made < 1000000) : Calls Tryz.prog 24 #[.pointer (some ⟨gj, 0, none⟩), .int .i64 0] w fun e w' => e = .returned (.int .i64 0) ∧ ∃ T' v', JB K B w' gj gd { J with recs := J.recs.take 0 } (mkC x (ctC J.nm (flen (dl (J.recs.take 0))))) T' v' := by
  have HD := hide (deadJ_any h)
  rw [hd] at HD
  have hrt : J.recs.take 0 = [] := rfl
  have HFL := hide fun W (b : Below w.heap.size w W) => fileLong_any (J.recs.take 0) (.slice none 0 0) W (by rw [hrt]; exact LX.nil W) (by rw [hrt]; decide)
  have HC := hide fun W (b : Below w.heap.size w W) => dcut_ok gd x T J.nm (flen (dl (J.recs.take 0))) W (h.dk.below b) hV hp hf hnm hk hmany hmade
  have HH := hide fun W T' (j : JB K B W gj gd J (mkC x (ctC J.nm (flen (dl (J.recs.take 0))))) T' (.slice none 0 0)) => heedJ_any j 0
  have HJ : Hid ({ J with dead := decide ((0 : Int) = 7) } = J) := by
    show _ = _
    rw [show decide ((0 : Int) = 7) = J.dead from hd.symm]
  have HL := hide h.dk.lt
  have s2 := sl2N
  have s3 := sl3N
  have c0 := h.c0
  have c1 := h.c1
  have c3 := h.c3
  have H0 := hide h
  have hl0 : J.recs.length = 0 := by rw [h0]; rfl
  clear h hd hb hV hp hf hnm hk hmany hmade
  generalize flen (dl (J.recs.take 0)) = F at *
  go_enter Tryz.func24, Tryz.ntmps24
  go_upto_region 5 with (go_at_call 30; refine HD.out.mono ?_; rintro e w1 ⟨rfl, hw⟩; subst w1)
  refine wp_region_held_drew (S := fun W => W.cell? ⟨gj, 0, none⟩ = some (.pointer (some ⟨gd, 0, none⟩)) ∧ W.cell? ⟨gj, 1, none⟩ = some (.string J.nm) ∧ W.cell? ⟨gj, 3, none⟩ = some (.slice none 0 0)) (by kernel_rfl) ⟨c0, c1, c3⟩ (fun hH => ?_)
  refine wpAnyH_take (i := 0) (v := .pointer (some ⟨gj, 0, none⟩)) rfl (by kernel_rfl) (by kernel_rfl) (by kernel_rfl) (fun _ _ _ h => h) (yl_move (by rfl) _ (by rfl) _ (by rfl)) hH ?_
  change wpAnyH _ _ _ _ _ _ _ (Act.put _ (some 19) _) _
  simp only [Act.put, List.setIfInBounds_toArray, List.set_cons_zero, List.set_cons_succ]
  refine wpAnyH_take (i := 1) (v := .pointer (some ⟨gj, 0, none⟩)) rfl (by kernel_rfl) (by kernel_rfl) (by kernel_rfl) (fun _ _ _ h => h) (yl_move (by rfl) _ (by rfl) _ (by rfl)) hH ?_
  change wpAnyH _ _ _ _ _ _ _ (Act.put _ (some 20) _) _
  simp only [Act.put, List.setIfInBounds_toArray, List.set_cons_zero, List.set_cons_succ]
  refine wpAnyH_take (i := 2) (v := .pointer (some ⟨gj, 0, none⟩)) rfl (by kernel_rfl) (by kernel_rfl) (by kernel_rfl) (fun _ _ _ h => h) (.inl ⟨by rfl, fun W _ => by go_simp⟩) hH ?_
  change wpAnyH _ _ _ _ _ _ _ (Act.put _ (some 21) _) _
  simp only [Act.put, List.setIfInBounds_toArray, List.set_cons_zero, List.set_cons_succ]
  refine wpAnyH_take (i := 3) (v := .pointer (some ⟨gj, 0, none⟩)) rfl (by kernel_rfl) (by kernel_rfl) (by kernel_rfl) (fun _ _ _ h => h) (.inl ⟨by rfl, fun W _ => by go_simp⟩) hH ?_
  change wpAnyH _ _ _ _ _ _ _ (Act.put _ (some 22) _) _
  simp only [Act.put, List.setIfInBounds_toArray, List.set_cons_zero, List.set_cons_succ]
  refine wpAnyH_take (i := 4) (v := .pointer (some ⟨gd, 0, none⟩)) rfl (by kernel_rfl) (by kernel_rfl) (by kernel_rfl) (fun _ _ _ h => h) (.inl ⟨by rfl, fun W hS => by have c4 := hS.1; go_simp⟩) hH ?_
  change wpAnyH _ _ _ _ _ _ _ (Act.put _ (some 23) _) _
  simp only [Act.put, List.setIfInBounds_toArray, List.set_cons_zero, List.set_cons_succ]
  refine wpAnyH_take (i := 5) (v := .pointer (some ⟨gj, 0, none⟩)) rfl (by kernel_rfl) (by kernel_rfl) (by kernel_rfl) (fun _ _ _ h => h) (yl_move (by rfl) _ (by rfl) _ (by rfl)) hH ?_
  change wpAnyH _ _ _ _ _ _ _ (Act.put _ (some 24) _) _
  simp only [Act.put, List.setIfInBounds_toArray, List.set_cons_zero, List.set_cons_succ]
  refine wpAnyH_take (i := 6) (v := .pointer (some ⟨gj, 0, none⟩)) rfl (by kernel_rfl) (by kernel_rfl) (by kernel_rfl) (fun _ _ _ h => h) (.inl ⟨by rfl, fun W _ => by go_simp⟩) hH ?_
  change wpAnyH _ _ _ _ _ _ _ (Act.put _ (some 25) _) _
  simp only [Act.put, List.setIfInBounds_toArray, List.set_cons_zero, List.set_cons_succ]
  refine wpAnyH_take (i := 7) (v := .pointer (some ⟨gj, 1, none⟩)) rfl (by kernel_rfl) (by kernel_rfl) (by kernel_rfl) (fun _ _ _ h => h) (.inl ⟨by rfl, fun W _ => by go_simp⟩) hH ?_
  change wpAnyH _ _ _ _ _ _ _ (Act.put _ (some 26) _) _
  simp only [Act.put, List.setIfInBounds_toArray, List.set_cons_zero, List.set_cons_succ]
  refine wpAnyH_take (i := 8) (v := .string J.nm) rfl (by kernel_rfl) (by kernel_rfl) (by kernel_rfl) (fun _ _ _ h => h) (.inl ⟨by rfl, fun W hS => by have c4 := hS.2.1; go_simp⟩) hH ?_
  change wpAnyH _ _ _ _ _ _ _ (Act.put _ (some 27) _) _
  simp only [Act.put, List.setIfInBounds_toArray, List.set_cons_zero, List.set_cons_succ]
  refine wpAnyH_take (i := 9) (v := .pointer (some ⟨gj, 0, none⟩)) rfl (by kernel_rfl) (by kernel_rfl) (by kernel_rfl) (fun _ _ _ h => h) (yl_move (by rfl) _ (by rfl) _ (by rfl)) hH ?_
  change wpAnyH _ _ _ _ _ _ _ (Act.put _ (some 28) _) _
  simp only [Act.put, List.setIfInBounds_toArray, List.set_cons_zero, List.set_cons_succ]
  refine wpAnyH_take (i := 10) (v := .pointer (some ⟨gj, 0, none⟩)) rfl (by kernel_rfl) (by kernel_rfl) (by kernel_rfl) (fun _ _ _ h => h) (.inl ⟨by rfl, fun W _ => by go_simp⟩) hH ?_
  change wpAnyH _ _ _ _ _ _ _ (Act.put _ (some 29) _) _
  simp only [Act.put, List.setIfInBounds_toArray, List.set_cons_zero, List.set_cons_succ]
  refine wpAnyH_take (i := 11) (v := .pointer (some ⟨gj, 3, none⟩)) rfl (by kernel_rfl) (by kernel_rfl) (by kernel_rfl) (fun _ _ _ h => h) (.inl ⟨by rfl, fun W _ => by go_simp⟩) hH ?_
  change wpAnyH _ _ _ _ _ _ _ (Act.put _ (some 30) _) _
  simp only [Act.put, List.setIfInBounds_toArray, List.set_cons_zero, List.set_cons_succ]
  refine wpAnyH_take (i := 12) (v := .slice none 0 0) rfl (by kernel_rfl) (by kernel_rfl) (by kernel_rfl) (fun _ _ _ h => h) (.inl ⟨by rfl, fun W hS => by have c4 := hS.2.2; go_simp⟩) hH ?_
  change wpAnyH _ _ _ _ _ _ _ (Act.put _ (some 31) _) _
  simp only [Act.put, List.setIfInBounds_toArray, List.set_cons_zero, List.set_cons_succ]
  refine wpAnyH_take (i := 13) (v := .int .i64 0) rfl (by kernel_rfl) (by kernel_rfl) (by kernel_rfl) (fun _ _ _ h => h) (yl_move (by rfl) _ (by rfl) _ (by rfl)) hH ?_
  change wpAnyH _ _ _ _ _ _ _ (Act.put _ (some 32) _) _
  simp only [Act.put, List.setIfInBounds_toArray, List.set_cons_zero, List.set_cons_succ]
  refine wpAnyH_take (i := 14) (v := .slice none 0 0) rfl (by kernel_rfl) (by kernel_rfl) (by kernel_rfl) (fun _ _ _ h => h) (yl_slice (by rfl) _ _ _ (by rfl) _ _ (by rfl) _ _ (by rfl) (by rfl) s2) hH ?_
  change wpAnyH _ _ _ _ _ _ _ (Act.put _ (some 33) _) _
  simp only [Act.put, List.setIfInBounds_toArray, List.set_cons_zero, List.set_cons_succ]
  refine wpAnyH_ready (rs := [15]) (by kernel_rfl) (by simp) (AllReadyH.cons rfl (fun K1 hK1 => ?_) AllReadyH.nil)
  go_simp
  refine (HFL.out _ (Below.refl _ _).drew).mono ?_
  rintro e w2 ⟨rfl, hw⟩
  subst w2
  refine hK1.out _ _ ⟨c0, c1, c3⟩ (fun hH => ?_)
  clear hK1
  refine wpAnyH_ready (rs := [16]) (by kernel_rfl) (by simp) (AllReadyH.cons rfl (fun K1 hK1 => ?_) AllReadyH.nil)
  go_simp
  refine (HC.out _ (Below.refl _ _).drew).mono ?_
  rintro e w5 ⟨rfl, hd5, hf5⟩
  have J5 := hide (H0.out.disk (dk_grow (Below.refl w.heap.size w).drew HL.out hd5 hf5))
  clear hd5 hf5
  refine hK1.out _ _ ⟨J5.out.c0, J5.out.c1, J5.out.c3⟩ (fun hH => ?_)
  clear hK1
  refine wpAnyH_ready (rs := [17]) (by kernel_rfl) (by simp) (AllReadyH.cons rfl (fun K1 hK1 => ?_) AllReadyH.nil)
  go_simp
  refine (HH.out _ _ J5.out).mono ?_
  rintro e w6 ⟨rfl, j6⟩
  rw [HJ.out] at j6
  have J6 := hide j6
  clear j6
  refine hK1.out _ _ ⟨J6.out.c0, J6.out.c1, J6.out.c3⟩ (fun hH => ?_)
  clear hK1 J5
  refine wpAnyH_take (i := 18) (v := .int .i64 0) rfl (by kernel_rfl) (by kernel_rfl) (by kernel_rfl) (fun _ _ _ h => h) (.inl ⟨by rfl, fun W _ => by go_simp⟩) hH ?_
  change wpAnyH _ _ _ _ _ _ _ (Act.put _ (some 5) _) _
  simp only [Act.put, List.setIfInBounds_toArray, List.set_cons_zero, List.set_cons_succ]
  refine wpAnyH_done (by kernel_rfl) ?_ _
  have a3 := J6.out.c3
  have f3 := J6.out.fz 3
  have FIN : Hid (∃ T' v', JB K B (w6.setCell ⟨gj, 3, none⟩ (.slice none 0 0)) gj gd { J with recs := J.recs.take 0 } (mkC x (ctC J.nm F)) T' v') := ⟨_, _, J6.out.set 3 (.slice none 0 0) rfl (.inl (OX.nil _)) (fun g hg => by cases hg)⟩
  clear c0 c1 c3 H0 HC HH HFL s2
  go_wp2
  go_ret
  exact ⟨rfl, FIN.out⟩
end
end Go.Proofs.YtgncphoaknffnaaGreatDoor
