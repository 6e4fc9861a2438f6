/- Disks: Names. The store: the names of its files, and which there are. The store: slices.BinarySearch of a sorted list of names; slices.Contains of numbers; strconv.Itoa of small numbers; a file's name. -/
import Derived.Test.YtppooipamibhoaaGreatDoorX21
import Derived.Test.YtppooipamibhoaaGreatDoorSrt
import Derived.Test.YtppooipamibhoaaGreatDoorX08
namespace Go.Proofs.YtppooipamibhoaaGreatDoor
open Go.RowKit
open Go.Deep
open Go.Lib
open Go.Maps
open Go.Sort
open Go.MapKept Go.ChangeMaps Go.WideElems
set_option linter.unusedVariables false
/-- The names of files, each once. -/
structure Nms (f : FS) (ks : List (List UInt8)) : Prop where
  nd : ks.Nodup
  mem : ∀ k, k ∈ ks ↔ (f.get k).isSome = true
theorem owns_lower {w : World} {B B' : Nat} {e : TypeId} {k : Nat} {v : Value} {n : Nat} {xs : List Value} (h : w.ownsRow B e k v n xs) (hb : B' ≤ B) : w.ownsRow B' e k v n xs := by
  obtain ⟨h1, h2⟩ := h
  refine ⟨h1, ?_⟩
  rcases h2 with h2 | ⟨g, cap, cur, e1, e2, r⟩
  · exact .inl h2
  · exact .inr ⟨g, cap, cur, e1, Nat.le_trans hb e2, r⟩
section
set_option maxRecDepth 10000
set_option maxHeartbeats 2000000
theorem names_nil (gd : Nat) (w : World) (hc : w.cell? ⟨gd, 0, none⟩ = some (.map none)) : Calls Tryz.prog 123 #[.pointer (some ⟨gd, 0, none⟩)] w fun e w' => ∃ v ks, e = .returned v ∧ Nms FS.none ks ∧ w'.ownsRow w.heap.size 9 1 v ks.length ((ks.mergeSort (fun x y => decide (x ≤ y))).map encStr) ∧ Below w.heap.size w w' := by
  have HK := hide ((callsIn_wide (n := 5)).1 (mapsKeys_in none w))
  have HS := hide ((callsIn_wide (n := 5)).1 (sortedKeysNil_in w))
  go_enter Tryz.func123, Tryz.ntmps123
  go_wp2_with (first | (go_at_call 206; refine HK.out.mono ?_; rintro e w1 ⟨rfl, rfl⟩) | (go_at_call 205; refine HS.out.mono ?_; rintro e w2 ⟨v, ss, rfl, hss, hrow, hnil, hb⟩; have R2 := hide (And.intro hss (And.intro hrow hb)); clear hss hrow hnil hb))
  go_ret
  obtain ⟨hs, row, hb⟩ := R2.out
  subst hs
  have b1 := (Below.refl w.heap.size w).alloc (Nat.le_refl _) (.cells #[.map none] 230)
  exact ⟨v, [], rfl, ⟨List.nodup_nil, fun k => by simp [FS.none]⟩, owns_lower row b1.size, below_next b1 hb⟩
theorem names_some (gd b : Nat) (F : List UInt8 → Option Value) (f : FS) (S : Nat → Prop) (w : World) (hc : w.cell? ⟨gd, 0, none⟩ = some (.map (some b))) (h : Fs w b F f S) (hn : f.n < 1000000) : Calls Tryz.prog 123 #[.pointer (some ⟨gd, 0, none⟩)] w fun e w' => ∃ v ks, e = .returned v ∧ Nms f ks ∧ w'.ownsRow w.heap.size 9 1 v ks.length ((ks.mergeSort (fun x y => decide (x ≤ y))).map encStr) ∧ Below w.heap.size w w' := by
  obtain ⟨D, ho, hh, ha, hs⟩ := h.mp.ex
  have HK := hide ((callsIn_wide (n := 5)).1 (mapsKeys_in (some b) w))
  have HS := hide ((callsIn_wide (n := 5)).1 (sortedKeys_in b f.n D slE w ho (by rw [hs]; unfold maxLen; omega) (by rw [hs]; omega)))
  have NM : Hid (∀ ss : List (List UInt8), ss.Perm (strKeys D) → Nms f ss) := fun ss hp => by
    obtain ⟨es, hD, hpw, _⟩ := ho.entries lawS
    obtain ⟨es0, clock, _, Ft, _, hD0⟩ := ho
    have hk : ∀ p ∈ es, ∃ k, p.1 = .string k := fun p hp => by
      rw [hD] at hD0
      injection hD0 with hD0
      rw [hD0] at hp
      obtain ⟨v, hv⟩ := Maps.fit_keys Ft p (mem_sorted.1 hp)
      obtain ⟨s, _, hs, _⟩ := keyS_inv hv
      exact ⟨_, hs⟩
    have hsk : strKeys D = es.map fun p => strOf p.1 := by rw [hD]; rfl
    rw [hsk] at hp
    refine ⟨hp.nodup_iff.2 ?_, fun k => ?_⟩
    · refine List.pairwise_map.2 (hpw.imp_of_mem fun {p q} hp' hq' hne e => hne ?_)
      obtain ⟨a, ha⟩ := hk p hp'
      obtain ⟨c, hc⟩ := hk q hq'
      rw [ha, hc] at e ⊢
      exact congrArg Lit.string e
    · rw [hp.mem_iff, List.mem_map, ← h.dom, ← hh, hD, Maps.has_eq, List.any_eq_true]
      constructor
      · rintro ⟨p, hpe, rfl⟩
        obtain ⟨a, ha⟩ := hk p hpe
        exact ⟨p, hpe, by rw [ha]; exact WideAt.sameKey_self trivial⟩
      · rintro ⟨p, hpe, hsk⟩
        exact ⟨p, hpe, by rw [WideAt.sameKey_eq hsk]; rfl⟩
  clear h ho hh ha hs hn
  go_enter Tryz.func123, Tryz.ntmps123
  go_wp2_with (first | (go_at_call 206; refine HK.out.mono ?_; rintro e w1 ⟨rfl, rfl⟩) | (go_at_call 205; refine HS.out.mono ?_; rintro e w2 ⟨v, ss, rfl, hss, hrow, hnil, hb⟩; have R2 := hide (And.intro hss (And.intro hrow hb)); clear hss hrow hnil hb))
  go_ret
  obtain ⟨hs, row, hb⟩ := R2.out
  have b1 := (Below.refl w.heap.size w).alloc (Nat.le_refl _) (.cells #[.map (some b)] 230)
  exact ⟨v, ss, rfl, NM.out ss hs, owns_lower row b1.size, below_next b1 hb⟩
theorem names_any (gd : Nat) (x : StD) (T : Nat → Prop) (w : World) (h : DK w gd x T) (hn : x.now.n < 1000000) : Calls Tryz.prog 123 #[.pointer (some ⟨gd, 0, none⟩)] w fun e w' => ∃ v ks, e = .returned v ∧ Nms x.now ks ∧ w'.ownsRow w.heap.size 9 1 v ks.length ((ks.mergeSort (fun x y => decide (x ≤ y))).map encStr) ∧ Below w.heap.size w w' := by
  obtain ⟨S1, S2, mn, ms, vo, vp, h⟩ := h
  have c0 : w.cell? ⟨gd, 0, none⟩ = some (.map mn) := h.cell 0 (by decide)
  rcases h.now with ⟨rfl, hs, _⟩ | ⟨b, F, rfl, hf⟩
  · rw [hs]
    exact names_nil gd w c0
  · exact names_some gd b F x.now S1 w c0 hf hn
end
end Go.Proofs.YtppooipamibhoaaGreatDoor
namespace Go.Proofs.YtppooipamibhoaaGreatDoor
open Go.RowKit
open Go.Deep
open Go.Lib
set_option linter.unusedVariables false
theorem lessO_yes {a b : ByteArray} (h : lsD a < lsD b) : Op.bytesLess a.toList b.toList = true := by
  rw [Go.Proofs.bytesLess_eq, Go.Lib.toList_data, Go.Lib.toList_data]
  exact decide_eq_true h
theorem lessO_no {a b : ByteArray} (h : ¬ lsD a < lsD b) : Op.bytesLess a.toList b.toList = false := by
  rw [Go.Proofs.bytesLess_eq, Go.Lib.toList_data, Go.Lib.toList_data]
  exact decide_eq_false h
theorem lsO_len (s : ByteArray) : (lsD s).length = s.size := by simp
/-- A number's digits, below 100. -/
def dgO (n : Nat) : List UInt8 := if n < 10 then [UInt8.ofNat (48 + n)] else [UInt8.ofNat (48 + n / 10), UInt8.ofNat (48 + n % 10)]
/-- The name of file n. -/
def fnO (nm : List UInt8) (n : Nat) : List UInt8 := nm ++ 45 :: dgO n
def fileO (nm : ByteArray) (n : Nat) : ByteArray := nm ++ txt (45 :: dgO n)
theorem fileO_ls (nm : ByteArray) (n : Nat) : lsD (fileO nm n) = fnO (lsD nm) n := by simp [fileO, fnO, txt, lsD]
theorem dgO_inj : ∀ n, n < 32 → ∀ m, m < 32 → dgO n = dgO m → n = m := by decide +kernel
theorem dgO_ok : ∀ n, n < 32 → (dgO n).all ofName = true ∧ (dgO n).length ≤ 2 := by decide +kernel
theorem fnO_inj {nm : List UInt8} {n m : Nat} (hn : n < 32) (hm : m < 32) (h : fnO nm n = fnO nm m) : n = m := by
  unfold fnO at h
  have h1 := List.append_cancel_left h
  exact dgO_inj n hn m hm (List.cons.inj h1).2
/-- May a store have that name? -/
def nameO (nm : List UInt8) : Bool := isName nm && decide (nm.length ≤ 20)
theorem nameO_file {nm : List UInt8} (h : nameO nm = true) {n : Nat} (hn : n < 32) : isName (fnO nm n) = true := by
  unfold nameO at h
  rw [Bool.and_eq_true, decide_eq_true_iff] at h
  obtain ⟨h1, h2⟩ := h
  unfold isName at h1 ⊢
  rw [Bool.and_eq_true, Bool.and_eq_true, decide_eq_true_iff, decide_eq_true_iff] at h1 ⊢
  obtain ⟨d1, d2⟩ := dgO_ok n hn
  have e : (fnO nm n).length = nm.length + (1 + (dgO n).length) := by unfold fnO; rw [List.length_append, List.length_cons]; omega
  refine ⟨⟨?_, by omega⟩, by omega⟩
  unfold fnO
  rw [List.all_append, List.all_cons, h1.1.1, d1]
  rfl
theorem fileO_size {nm : ByteArray} (h : nameO (lsD nm) = true) {n : Nat} (hn : n < 32) : (fileO nm n).size ≤ 23 := by
  have h1 : (fnO (lsD nm) n).length ≤ 23 := by
    unfold nameO at h
    rw [Bool.and_eq_true, decide_eq_true_iff] at h
    have := (dgO_ok n hn).2
    unfold fnO
    rw [List.length_append, List.length_cons]
    omega
  rw [← fileO_ls] at h1
  rw [lsO_len] at h1
  exact h1
/-- The numbers of the files that are there. -/
def hasO (f : FS) (nm : List UInt8) (n : Nat) : Bool := (f.get (fnO nm n)).isSome
def filesO (f : FS) (nm : List UInt8) : List Nat := (List.range 32).filter (hasO f nm)
theorem filesO_mem {f : FS} {nm : List UInt8} {n : Nat} : n ∈ filesO f nm ↔ n < 32 ∧ hasO f nm n = true := by simp [filesO]
theorem filesO_lt {f : FS} {nm : List UInt8} : ∀ n ∈ filesO f nm, n < 32 := fun n h => (filesO_mem.1 h).1
theorem filesO_len (f : FS) (nm : List UInt8) : (filesO f nm).length ≤ 32 := by
  have := List.length_filter_le (hasO f nm) (List.range 32)
  simpa [filesO] using this
/-- The greatest number, one more; 0: there is none. -/
def lastO (f : FS) (nm : List UInt8) : Option Nat := (filesO f nm).getLast?
def lastI (f : FS) (nm : List UInt8) : Int := match lastO f nm with | none => -1 | some n => (n : Int)
theorem lastO_lt {f : FS} {nm : List UInt8} {n : Nat} (h : lastO f nm = some n) : n < 32 ∧ hasO f nm n = true := filesO_mem.1 (List.mem_of_getLast? h)
theorem filesO_sorted (f : FS) (nm : List UInt8) : (filesO f nm).Pairwise (· < ·) := List.Pairwise.filter _ List.pairwise_lt_range
theorem lastO_max {f : FS} {nm : List UInt8} {n : Nat} (h : lastO f nm = some n) : ∀ m, m < 32 → hasO f nm m = true → m ≤ n := fun m hm hh => by
  have hmem : m ∈ filesO f nm := filesO_mem.2 ⟨hm, hh⟩
  obtain ⟨l, hl⟩ : ∃ l, filesO f nm = l ++ [n] := List.getLast?_eq_some_iff.1 h
  rw [hl] at hmem
  have hs := filesO_sorted f nm
  rw [hl, List.pairwise_append] at hs
  rcases List.mem_append.1 hmem with c | c
  · exact Nat.le_of_lt (hs.2.2 m c n (by simp))
  · simp at c
    omega
theorem lastO_none {f : FS} {nm : List UInt8} (h : lastO f nm = none) : filesO f nm = [] := List.getLast?_eq_none_iff.1 h
end Go.Proofs.YtppooipamibhoaaGreatDoor
namespace Go.Proofs.YtppooipamibhoaaGreatDoor
open Go.RowKit
open Go.Deep
open Go.Lib
set_option linter.unusedVariables false
section
set_option maxRecDepth 10000
set_option maxHeartbeats 1000000
theorem nanC_any (x : ByteArray) (w : World) : Calls Tryz.prog 280 #[.string x] w fun e w' => e = .returned (.bool false) ∧ w' = w := by
  go_enter Tryz.func280, Tryz.ntmps280
  go_wp2
  go_ret
  exact ⟨by simp, rfl⟩
theorem nanS_any (x : ByteArray) (w : World) : Calls Tryz.prog 208 #[.string x] w fun e w' => e = .returned (.bool false) ∧ w' = w := by
  go_enter Tryz.func208, Tryz.ntmps208
  go_wp2
  go_ret
  exact ⟨by simp, rfl⟩
theorem lessS_any (x y : ByteArray) (w : World) : Calls Tryz.prog 207 #[.string x, .string y] w fun e w' => e = .returned (.bool (decide (lsD x < lsD y))) ∧ w' = w := by
  have HN := hide fun W => nanC_any x W
  by_cases h : lsD x < lsD y
  · have h1 := lessO_yes h
    rw [decide_eq_true h]
    clear h
    go_enter Tryz.func207, Tryz.ntmps207
    go_wp2_with (go_at_call 280; refine (HN.out _).mono ?_; rintro e w' ⟨rfl, rfl⟩)
    go_ret
    exact ⟨rfl, rfl⟩
  · have h1 := lessO_no h
    rw [decide_eq_false h]
    clear h
    go_enter Tryz.func207, Tryz.ntmps207
    go_wp2_with (go_at_call 280; refine (HN.out _).mono ?_; rintro e w' ⟨rfl, rfl⟩)
    go_ret
    exact ⟨rfl, rfl⟩
/-- In a sorted list: what is ahead of a place is below k, what is from it on is not. -/
structure Cut (L : List (List UInt8)) (k : List UInt8) (lo hi : Nat) : Prop where
  le : lo ≤ hi
  top : hi ≤ L.length
  low : ∀ j (h : j < L.length), j < lo → L[j] < k
  high : ∀ j (h : j < L.length), hi ≤ j → ¬ L[j] < k
theorem Cut.up {L : List (List UInt8)} {k : List UInt8} {lo hi m : Nat} (h : Cut L k lo hi) (hs : L.Pairwise (· < ·)) (h1 : lo ≤ m) (h2 : m < hi) (hm : L[m]'(Nat.lt_of_lt_of_le h2 h.top) < k) : Cut L k (m + 1) hi :=
  ⟨by omega, h.top, fun j hj hl => by
    by_cases c : j = m
    · subst c; exact hm
    · exact List.lt_trans (List.pairwise_iff_getElem.1 hs j m hj (Nat.lt_of_lt_of_le h2 h.top) (by omega)) hm, h.high⟩
theorem Cut.down {L : List (List UInt8)} {k : List UInt8} {lo hi m : Nat} (h : Cut L k lo hi) (hs : L.Pairwise (· < ·)) (h1 : lo ≤ m) (h2 : m < hi) (hm : ¬ L[m]'(Nat.lt_of_lt_of_le h2 h.top) < k) : Cut L k lo m :=
  ⟨h1, by have := h.top; omega, h.low, fun j hj hl hlt => by
    by_cases c : j = m
    · subst c; exact hm hlt
    · exact hm (List.lt_trans (List.pairwise_iff_getElem.1 hs m j (Nat.lt_of_lt_of_le h2 h.top) hj (by omega)) hlt)⟩
theorem Cut.found {L : List (List UInt8)} {k : List UInt8} {i : Nat} (h : Cut L k i i) (hs : L.Pairwise (· < ·)) : decide (k ∈ L) = decide (∃ hi : i < L.length, L[i] = k) := by
  rw [decide_eq_decide]
  constructor
  · intro hm
    obtain ⟨j, hj, e⟩ := List.getElem_of_mem hm
    have h1 : ¬ j < i := fun c => List.lt_irrefl k (by have := h.low j hj c; rwa [e] at this)
    by_cases c : j = i
    · subst c; exact ⟨hj, e⟩
    · exfalso
      have h2 : i < L.length := by omega
      have h3 := h.high i h2 (Nat.le_refl _)
      exact h3 (by rw [← e]; exact List.pairwise_iff_getElem.1 hs i j h2 hj (by omega))
  · rintro ⟨hi, e⟩
    rw [← e]
    exact List.getElem_mem hi
theorem binS_any (L : List (List UInt8)) (k : ByteArray) (b n c : Nat) (hn : n = L.length) (w : World) (hs : L.Pairwise (· < ·)) (hbig : L.length < 4611686018427387904) (hc : ∀ j (h : j < L.length), w.cell? ⟨b, j, none⟩ = some (.string (txt L[j]))) : Calls Tryz.prog 124 #[.slice (some ⟨b, 0, none⟩) n c, .string k] w fun e w' => (∃ i : Int, e = .returned (.tuple #[.int .i64 i, .bool (decide (lsD k ∈ L))])) ∧ w' = w := by
  subst hn
  have HL := hide fun x y W => lessS_any x y W
  have HN := hide fun x W => nanS_any x W
  have HC := hide hc
  have HS := hide hs
  clear hc hs
  go_enter Tryz.func124, Tryz.ntmps124
  go_wp2
  go_loopw [7, 8] (fun i j wr => ∃ lo hi : Nat, i = .int .i64 (lo : Int) ∧ j = .int .i64 (hi : Int) ∧ wr = w ∧ Hid (Cut L (lsD k) lo hi)) (fun i j _ => (intOf j - intOf i).toNat)
  case atStart => exact ⟨0, L.length, rfl, rfl, rfl, ⟨Nat.zero_le _, Nat.le_refl _, fun j _ h => absurd h (Nat.not_lt_zero _), fun j h hh => absurd h (by omega)⟩⟩
  case round =>
    obtain ⟨lo, hi, rfl, rfl, hw, hb⟩ := hrel
    subst hw
    have htop := hb.out.top
    have hle := hb.out.le
    by_cases hlt : lo < hi
    · have hm : (lo + hi) / 2 < L.length := by omega
      have cm : wr.cell? ⟨b, (lo + hi) / 2, none⟩ = some (.string (txt L[(lo + hi) / 2])) := HC.out _ hm
      have UP : Hid (L[(lo + hi) / 2]'hm < lsD k → Cut L (lsD k) ((lo + hi) / 2 + 1) hi) := hb.out.up HS.out (m := (lo + hi) / 2) (by omega) (by omega)
      have DN : Hid (¬ L[(lo + hi) / 2]'hm < lsD k → Cut L (lsD k) lo ((lo + hi) / 2)) := hb.out.down HS.out (m := (lo + hi) / 2) (by omega) (by omega)
      have hy : lsD (txt L[(lo + hi) / 2]) = L[(lo + hi) / 2] := rfl
      have HL := hide (HL.out (txt L[(lo + hi) / 2]) k)
      rw [hy] at HL
      clear HC HS HN hb hy
      generalize txt L[(lo + hi) / 2] = y at *
      generalize L[(lo + hi) / 2] = z at *
      by_cases hz : z < lsD k
      · rw [decide_eq_true hz] at HL
        have UP := hide (UP.out hz)
        clear DN hz
        go_wp2_with (go_at_call 207; refine (HL.out _).mono ?_; rintro e w' ⟨rfl, hw⟩; subst w')
        go_roundw
        case rel => exact ⟨(lo + hi) / 2 + 1, hi, by go_num, by first | rfl | trivial, by first | rfl | trivial, UP.out⟩
        case measure => simp [intOf]; omega
      · rw [decide_eq_false hz] at HL
        have DN := hide (DN.out hz)
        clear UP hz
        go_wp2_with (go_at_call 207; refine (HL.out _).mono ?_; rintro e w' ⟨rfl, hw⟩; subst w')
        go_roundw
        case rel => exact ⟨lo, (lo + hi) / 2, by first | rfl | trivial, by go_num, by first | rfl | trivial, DN.out⟩
        case measure => simp [intOf]; omega
    · have : hi = lo := by omega
      subst this
      have FD := hide (hb.out.found HS.out)
      clear HL hb HS
      by_cases hn : hi < L.length
      · have cl : wr.cell? ⟨b, hi, none⟩ = some (.string (txt L[hi])) := HC.out _ hn
        have FE : Hid (decide (lsD k ∈ L) = decide (txt L[hi] = k)) := by
          show _ = _
          rw [FD.out, decide_eq_decide]
          constructor
          · rintro ⟨_, e⟩
            rw [e, txtJ_of]
          · intro e
            exact ⟨hn, congrArg lsD e⟩
        have HN := hide fun W => HN.out (txt L[hi]) W
        clear HC FD
        generalize txt L[hi] = y at *
        by_cases hyx : y = k
        · have hq : (y.toList == k.toList) = true := by rw [hyx]; simp
          rw [decide_eq_true hyx] at FE
          go_wp2_with (go_at_call 208; refine (HN.out _).mono ?_; rintro e w' ⟨rfl, hw⟩; subst w')
          all_goals
            go_ret2
            exact ⟨⟨(hi : Int), by rw [FE.out] <;> rfl⟩, rfl⟩
        · have hne : (y.toList == k.toList) = false := by
            rw [beq_eq_false_iff_ne]
            intro h
            apply hyx
            rw [Lib.toList_data, Lib.toList_data] at h
            rw [← txtJ_of y, ← txtJ_of k, h]
          rw [decide_eq_false hyx] at FE
          go_wp2_with (go_at_call 208; refine (HN.out _).mono ?_; rintro e w' ⟨rfl, hw⟩; subst w')
          all_goals
            go_ret2
            exact ⟨⟨(hi : Int), by rw [FE.out] <;> rfl⟩, rfl⟩
      · have FE : Hid (decide (lsD k ∈ L) = false) := by
          show _ = _
          rw [FD.out]
          exact decide_eq_false (fun h => hn h.1)
        clear HC FD
        go_wp2_with fail
        go_ret2
        exact ⟨⟨(hi : Int), by rw [FE.out] <;> rfl⟩, rfl⟩
theorem smallO_any (n : Nat) (hn : n < 32) (w : World) : Calls Tryz.prog 364 #[.int .i64 (n : Int)] w fun e w' => e = .returned (.string (txt (dgO n))) ∧ w' = w := by
  have h : n = 0 ∨ n = 1 ∨ n = 2 ∨ n = 3 ∨ n = 4 ∨ n = 5 ∨ n = 6 ∨ n = 7 ∨ n = 8 ∨ n = 9 ∨ n = 10 ∨ n = 11 ∨ n = 12 ∨ n = 13 ∨ n = 14 ∨ n = 15 ∨ n = 16 ∨ n = 17 ∨ n = 18 ∨ n = 19 ∨ n = 20 ∨ n = 21 ∨ n = 22 ∨ n = 23 ∨ n = 24 ∨ n = 25 ∨ n = 26 ∨ n = 27 ∨ n = 28 ∨ n = 29 ∨ n = 30 ∨ n = 31 := by omega
  clear hn
  rcases h with h | h | h | h | h | h | h | h | h | h | h | h | h | h | h | h | h | h | h | h | h | h | h | h | h | h | h | h | h | h | h | h
  all_goals
    subst h
    go_enter Tryz.func364, Tryz.ntmps364
    go_wp2
    go_ret
    exact ⟨by congr 1, rfl⟩
theorem itoaO_any (n : Nat) (hn : n < 32) (w : World) : Calls Tryz.prog 195 #[.int .i64 (n : Int)] w fun e w' => e = .returned (.string (txt (dgO n))) ∧ w' = w := by
  have HS := hide (smallO_any n hn w)
  have h1 : (0 : Int) ≤ n := by omega
  have h2 : (n : Int) < 100 := by omega
  have HF : Hid (Calls Tryz.prog 333 #[.int .i64 (n : Int), .int .i64 10] w fun e w' => e = .returned (.string (txt (dgO n))) ∧ w' = w) := by
    show Calls _ _ _ _ _
    go_enter Tryz.func333, Tryz.ntmps333
    go_wp2_with (go_at_call 364; refine HS.out.mono ?_; rintro e w' ⟨rfl, hw⟩; subst w')
    go_ret
    exact ⟨rfl, rfl⟩
  have HI : Hid (Calls Tryz.prog 267 #[.int .i64 (n : Int)] w fun e w' => e = .returned (.string (txt (dgO n))) ∧ w' = w) := by
    show Calls _ _ _ _ _
    go_enter Tryz.func267, Tryz.ntmps267
    go_wp2_with (go_at_call 333; refine HF.out.mono ?_; rintro e w' ⟨rfl, hw⟩; subst w')
    go_ret
    exact ⟨rfl, rfl⟩
  go_enter Tryz.func195, Tryz.ntmps195
  go_wp2_with (go_at_call 267; refine HI.out.mono ?_; rintro e w' ⟨rfl, hw⟩; subst w')
  go_ret
  exact ⟨rfl, rfl⟩
end
end Go.Proofs.YtppooipamibhoaaGreatDoor
