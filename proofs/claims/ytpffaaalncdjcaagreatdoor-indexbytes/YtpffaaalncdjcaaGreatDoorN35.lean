/- Journals: the bytes of a file, and what is read of them. Disks: the contracts of Cut, Move and Loose. Journals: how long a file is; all records; cutting. -/
import Derived.Test.YtpffaaalncdjcaaGreatDoorN34
import Derived.Test.YtpffaaalncdjcaaGreatDoorN31
namespace Go.Proofs.YtpffaaalncdjcaaGreatDoor
open Go.RowKit
open Go.Deep
open Go.Lib
set_option linter.unusedVariables false
/-- The bytes of records, the first of which has that number. -/
def recsL (ep : Nat) : Nat → List (List UInt8) → List UInt8
  | _, [] => []
  | n, s :: r => recL ep n s ++ recsL ep (n + 1) r
def fileL (ep : Nat) (L : List (List UInt8)) : List UInt8 := headL ep ++ recsL ep 0 L
def flen (L : List (List UInt8)) : Nat := 20 + (L.map fun s => 16 + s.length).sum
theorem recsL_app (ep : Nat) : ∀ (A B : List (List UInt8)) (n : Nat), recsL ep n (A ++ B) = recsL ep n A ++ recsL ep (n + A.length) B
  | [], B, n => rfl
  | s :: r, B, n => by
    show recL ep n s ++ recsL ep (n + 1) (r ++ B) = (recL ep n s ++ recsL ep (n + 1) r) ++ _
    rw [recsL_app ep r B (n + 1), List.append_assoc, List.length_cons, show n + 1 + r.length = n + (r.length + 1) by omega]
theorem recsL_len (ep : Nat) : ∀ (L : List (List UInt8)) (n : Nat), (recsL ep n L).length = (L.map fun s => 16 + s.length).sum
  | [], n => rfl
  | s :: r, n => by
    show (recL ep n s ++ recsL ep (n + 1) r).length = _
    rw [List.length_append, recL_len, recsL_len ep r (n + 1)]
    simp
theorem fileL_len (ep : Nat) (L : List (List UInt8)) : (fileL ep L).length = flen L := by
  unfold fileL flen
  rw [List.length_append, headL_len, recsL_len]
theorem fileL_app (ep : Nat) (A B : List (List UInt8)) : fileL ep (A ++ B) = fileL ep A ++ recsL ep A.length B := by
  unfold fileL
  rw [recsL_app, List.append_assoc, Nat.zero_add]
theorem fileL_snoc (ep : Nat) (A : List (List UInt8)) (s : List UInt8) : fileL ep (A ++ [s]) = fileL ep A ++ recL ep A.length s := by
  rw [fileL_app]
  show _ ++ (recL ep A.length s ++ []) = _
  rw [List.append_nil]
theorem fileL_cut (ep : Nat) (L : List (List UInt8)) (n : Nat) : fileL ep L = fileL ep (L.take n) ++ recsL ep (L.take n).length (L.drop n) := by
  rw [← fileL_app, List.take_append_drop]
theorem fileL_take (ep : Nat) (L : List (List UInt8)) (n : Nat) : (fileL ep L).take (flen (L.take n)) = fileL ep (L.take n) := by
  rw [fileL_cut ep L n, List.take_append_of_le_length (by rw [fileL_len]; exact Nat.le_refl _), List.take_of_length_le (by rw [fileL_len]; exact Nat.le_refl _)]
theorem fileL_drop (ep : Nat) (L : List (List UInt8)) (n : Nat) (hn : n ≤ L.length) : (fileL ep L).drop (flen (L.take n)) = recsL ep n (L.drop n) := by
  rw [fileL_cut ep L n, ← fileL_len ep (L.take n), List.drop_left, List.length_take, Nat.min_eq_left hn]
theorem flen_snoc (L : List (List UInt8)) (s : List UInt8) : flen (L ++ [s]) = flen L + (16 + s.length) := by
  unfold flen
  simp
  omega
theorem leN_lowJ (k n : Nat) (h : n < 256 ^ k) : leN (lowL n k) = n := by
  induction k generalizing n with
  | zero =>
    simp at h
    subst h
    rfl
  | succ k ih =>
    have h2 : n / 256 < 256 ^ k := by
      apply Nat.div_lt_of_lt_mul
      rw [Nat.pow_succ, Nat.mul_comm] at h
      exact h
    show leN (UInt8.ofNat (n % 256) :: lowL (n / 256) k) = n
    show (UInt8.ofNat (n % 256)).toNat + 256 * leN (lowL (n / 256) k) = n
    rw [ih _ h2, show (UInt8.ofNat (n % 256)).toNat = n % 256 by simp]
    omega
theorem rdRec_rec (ep no : Nat) (s t : List UInt8) (hs : s.length ≤ 65536) : rdRec ep no (recL ep no s ++ t) = some s := by
  have h4 : (recL ep no s ++ t).take 4 = lowL s.length 4 := by rw [List.take_append_of_le_length (by rw [recL_len]; omega), rec_take4]
  have hn : leN ((recL ep no s ++ t).take 4) = s.length := by rw [h4, leN_lowJ 4 _ (by omega)]
  have h12 : ((recL ep no s ++ t).drop 12).take s.length = s := by
    unfold recL bodyL
    rw [show (lowL s.length 4 ++ lowL no 8 ++ s ++ sm4 (lowL ep 8 ++ (lowL s.length 4 ++ lowL no 8 ++ s)) ++ t) = (lowL s.length 4 ++ lowL no 8) ++ (s ++ (sm4 (lowL ep 8 ++ (lowL s.length 4 ++ lowL no 8 ++ s)) ++ t)) by simp only [List.append_assoc]]
    rw [show 12 = (lowL s.length 4 ++ lowL no 8).length by rw [List.length_append, lowL_len, lowL_len], List.drop_left, List.take_left]
  unfold rdRec
  rw [hn, h12, if_pos]
  refine ⟨by rw [List.length_append, recL_len]; omega, hs, ?_⟩
  rw [List.take_append_of_le_length (by rw [recL_len]; omega), List.take_of_length_le (by rw [recL_len]; omega)]
theorem stJ_file (ep : Nat) (L : List (List UInt8)) (hL : ∀ s ∈ L, s.length ≤ 65536) : ∀ k, k ≤ L.length → stJ ep (fileL ep L) k = some (L.take k, flen (L.take k))
  | 0, _ => rfl
  | k + 1, h => by
    have ih := stJ_file ep L hL k (by omega)
    have hk : k < L.length := by omega
    have hlen : (L.take k).length = k := by rw [List.length_take]; omega
    have hr : rdRec ep (L.take k).length ((fileL ep L).drop (flen (L.take k))) = some L[k] := by
      rw [fileL_drop ep L k (by omega), hlen, List.drop_eq_getElem_cons hk]
      exact rdRec_rec ep k L[k] _ (hL _ (List.getElem_mem hk))
    rw [stJ_next ih hr, List.take_succ_eq_append_getElem hk, flen_snoc]
theorem stJ_file_end (ep : Nat) (L : List (List UInt8)) (hL : ∀ s ∈ L, s.length ≤ 65536) : stJ ep (fileL ep L) (L.length + 1) = none := by
  refine stJ_end (stJ_file ep L hL L.length (Nat.le_refl _)) ?_
  rw [fileL_drop ep L L.length (Nat.le_refl _), List.drop_length]
  unfold rdRec
  rw [if_neg (by intro c; have := c.1; simp [recsL] at this)]
theorem thE_is (s : ByteArray) (h : 16 ≤ s.size) : thE s = leN (s.extract 8 16).data.toList := by
  unfold thE
  have e0 : rtake s 0 0 8 = (8, 0, s.extract 0 8) := by
    unfold rtake
    rw [if_neg (by simp), if_neg (by omega), if_neg (by omega)]
    rfl
  rw [e0]
  show leN (rtake s 8 0 8).2.2.data.toList = _
  unfold rtake
  rw [if_neg (by simp), if_neg (by omega), if_neg (by omega)]
  rfl
theorem file_ge (ep : Nat) (L : List (List UInt8)) : 20 ≤ (txt (fileL ep L)).size := by
  rw [txtJ_size, fileL_len]
  unfold flen
  omega
theorem thE_file (ep : Nat) (L : List (List UInt8)) (he : U64 ep) : thE (txt (fileL ep L)) = ep := by
  have := file_ge ep L
  rw [thE_is _ (by omega), exJ, txtJ_list]
  have e : ((fileL ep L).drop 8).take (16 - 8) = lowL ep 8 := by
    unfold fileL headL
    have h8 : (lowL ep 8).length = 8 := lowL_len _ _
    generalize lowL ep 8 = l8 at *
    rw [show markL ++ l8 ++ sm4 (markL ++ l8) ++ recsL ep 0 L = markL ++ (l8 ++ (sm4 (markL ++ l8) ++ recsL ep 0 L)) by simp only [List.append_assoc]]
    show List.take 8 (l8 ++ _) = l8
    exact List.take_left' h8
  rw [e, leN_lowJ 8 _ he]
theorem pfx_file (ep : Nat) (L : List (List UInt8)) : pfx (txt (fileL ep L)) (txt (headL ep)) = true := by
  rw [pfx_iff]
  refine ⟨by rw [txtJ_size, headL_len]; exact file_ge ep L, ?_⟩
  rw [txtJ_size, txtJ_list, txtJ_list]
  exact List.take_left
/-- What is read of a whole file. -/
theorem rdJ_file {w w' : World} {ep : Nat} {L L' : List (List UInt8)} {v : Value} {a : Nat} (hL : ∀ s ∈ L, s.length ≤ 65536) (h : RdJ w w' (txt (fileL ep L)) ep v L' a) : L' = L ∧ a = flen L := by
  obtain ⟨k, h1, h2⟩ := h.st
  rw [txtJ_list] at h1 h2
  have e := stJ_one h1 h2 (stJ_file ep L hL L.length (Nat.le_refl _)) (stJ_file_end ep L hL)
  rw [List.take_length] at e
  cases e
  exact ⟨rfl, rfl⟩
end Go.Proofs.YtpffaaalncdjcaaGreatDoor
namespace Go.Proofs.YtpffaaalncdjcaaGreatDoor
open Go.RowKit
open Go.Deep
open Go.Lib
set_option linter.unusedVariables false
def ctC (nm : ByteArray) (k : Nat) : Ch := ⟨1, nm, ⟨#[]⟩, k, ⟨#[]⟩⟩
def mvC (a b : ByteArray) : Ch := ⟨2, a, b, 0, ⟨#[]⟩⟩
theorem fnd_some {x : StD} {nm : ByteArray} (h : fnd x nm = 0) : (x.now.get (lsD nm)).isSome = true ∧ rdy x.dead [nm] = 0 := by
  unfold fnd at h
  split at h
  · rename_i hr
    split at h
    · rename_i hi
      exact ⟨hi, hr⟩
    · cases h
  · rename_i hr
    exact absurd h hr
theorem ct_ok {f : FS} {nm : ByteArray} {k : Nat} (hb : BdD f) (hn : isName (lsD nm) = true) (hk : k ≤ (f.at (lsD nm)).length) (hr : (f.get (lsD nm)).isSome = true) : okD f (ctC nm k) := by
  have h32 := (name_len hn).2
  have hsz : nm.size ≤ 32 := by simpa using h32
  refine ⟨by simp [ctC], hsz, (by show ByteArray.size ⟨#[]⟩ ≤ 32; decide), fun _ => hk, (by show ByteArray.size ⟨#[]⟩ ≤ 16777216; decide), hb, ⟨?_, fun x => ?_⟩⟩
  · show (if (f.get (lsD nm)).isSome then f.n else f.n + 1) ≤ 64
    rw [if_pos hr]
    exact hb.n
  · show ((f.put (lsD nm) ((f.at (lsD nm)).take k)).at x).length ≤ 16777216
    rw [at_put]
    split
    · rw [List.length_take]
      have := hb.len (lsD nm)
      omega
    · exact hb.len x
theorem mv_ok {f : FS} {a b : ByteArray} (hb : BdD f) (ha : isName (lsD a) = true) (hn : isName (lsD b) = true) (hr : (f.get (lsD a)).isSome = true) (h1 : 1 ≤ f.n) : okD f (mvC a b) := by
  have h32 := (name_len ha).2
  have hsz : a.size ≤ 32 := by simpa using h32
  have h33 := (name_len hn).2
  have hsy : b.size ≤ 32 := by simpa using h33
  refine ⟨by simp [mvC], hsz, hsy, fun h => absurd h (by simp [mvC]), (by show ByteArray.size ⟨#[]⟩ ≤ 16777216; decide), hb, ⟨?_, fun x => ?_⟩⟩
  · have h2 : (f.del (lsD a)).n = f.n - 1 := by
      show (if (f.get (lsD a)).isSome then f.n - 1 else f.n) = _
      rw [if_pos hr]
    have h3 := hb.n
    show (if ((f.del (lsD a)).get (lsD b)).isSome then (f.del (lsD a)).n else (f.del (lsD a)).n + 1) ≤ 64
    rw [h2]
    split <;> omega
  · show (((f.del (lsD a)).put (lsD b) (f.at (lsD a))).at x).length ≤ 16777216
    rw [at_put, at_del]
    split
    · exact hb.len _
    · split
      · simp
      · exact hb.len x
section
set_option maxRecDepth 10000
set_option maxHeartbeats 4000000
theorem dcut_ok (gd : Nat) (x : StD) (T : Nat → Prop) (nm : ByteArray) (k : Nat) (w : World) (h : DK w gd x T) (hV : Vd x) (hp : x.plan = []) (hf : fnd x nm = 0) (hn : isName (lsD nm) = true) (hk : k ≤ (x.now.at (lsD nm)).length) (hmany : x.loose.length < 10000) (hmade : x.made < 1000000) : Calls Tryz.prog 96 #[.pointer (some ⟨gd, 0, none⟩), .string nm, .int .i64 (k : Int)] w fun e w' => e = .returned (.int .i64 0) ∧ DK w' gd (mkC x (ctC nm k)) (grow T w w') ∧ Fr T w w' := by
  have hm : nm.size ≤ maxLen := by
    have := (name_len hn).2
    have e : (lsD nm).length = nm.size := by simp
    unfold maxLen
    omega
  have HF := hide (find_any gd x T nm w h hm)
  rw [hf] at HF
  rw [if_pos rfl] at HF
  have HDo : Hid (∀ W, Below w.heap.size w W → Calls Tryz.prog 121 #[.pointer (some ⟨gd, 0, none⟩), .agg #[.int .i64 1, .string nm, .string ⟨#[]⟩, .int .i64 (k : Int), .string ⟨#[]⟩]] W fun e w' => e = .returned (.int .i64 0) ∧ DK w' gd (mkC x (ctC nm k)) (grow T W w') ∧ Fr T W w') := fun W hb => do_any gd x T (ctC nm k) W (h.below hb) hV hp (ct_ok hV.bd hn hk (fnd_some hf).1) hmany hmade
  have HL := hide h.lt
  have k0 : (0 : Int) ≤ (k : Int) := by omega
  have k1 : ¬ ((x.now.at (lsD nm)).length : Int) < (k : Int) := by omega
  have HK := hide k1
  clear h hV hp hf hn hmany hmade hm hk k1
  go_enter Tryz.func96, Tryz.ntmps96
  go_wp2_with (first | (go_at_call 118; refine HF.out.mono ?_; rintro e w1 ⟨⟨v, rfl, o⟩, hb⟩; have HB := hide hb; obtain ⟨ao, n, c, rfl, hn⟩ := o.form; have k2 : ¬ (n : Int) < (k : Int) := (by rw [hn.out]; exact HK.out); clear hb o hn) | (go_at_call 121; refine (HDo.out _ HB.out).mono ?_; rintro e w2 ⟨rfl, hd, hf⟩; have HE := hide (dk_grow HB.out HL.out hd hf); clear hd hf))
  go_ret
  exact ⟨rfl, HE.out⟩
theorem two_names (w : World) (a b : ByteArray) (ha : a.size ≤ maxLen) (hb : b.size ≤ maxLen) : NmAt (w.alloc (.cells #[.string a, .string b] 9)) w.heap.size [a, b] := fun i s hs => by
  rcases i with _ | _ | i
  · simp at hs
    subst hs
    exact ⟨by rw [cell_of_row _ _ _ _ _ _ (heap_alloc_last w _)]; rfl, ha⟩
  · simp at hs
    subst hs
    exact ⟨by rw [cell_of_row _ _ _ _ _ _ (heap_alloc_last w _)]; rfl, hb⟩
  · simp at hs
theorem dmove_ok (gd : Nat) (x : StD) (T : Nat → Prop) (a b : ByteArray) (w : World) (h : DK w gd x T) (hV : Vd x) (hp : x.plan = []) (hf : fnd x a = 0) (ha : isName (lsD a) = true) (hn : isName (lsD b) = true) (h1 : 1 ≤ x.now.n) (hmany : x.loose.length < 10000) (hmade : x.made < 1000000) : Calls Tryz.prog 127 #[.pointer (some ⟨gd, 0, none⟩), .string a, .string b] w fun e w' => e = .returned (.int .i64 0) ∧ DK w' gd (mkC x (mvC a b)) (grow T w w') ∧ Fr T w w' := by
  have hm : a.size ≤ maxLen := by
    have := (name_len ha).2
    have e : (lsD a).length = a.size := by simp
    unfold maxLen
    omega
  have hmb : b.size ≤ maxLen := by
    have := (name_len hn).2
    have e : (lsD b).length = b.size := by simp
    unfold maxLen
    omega
  have b0 : Below w.heap.size w (w.alloc (.cells #[.string a, .string b] 9)) := (Below.refl _ _).alloc (Nat.le_refl _) _
  have HF := hide (find_any gd x T a _ (h.below b0) hm)
  rw [hf] at HF
  have hrd : rdy x.dead [a, b] = 0 := by
    have h2 := (fnd_some hf).2
    unfold rdy at h2 ⊢
    split at h2
    · cases h2
    · rename_i hd
      rw [if_neg hd, if_pos]
      simp [ha, hn]
  have c5 : (w.alloc (.cells #[.string a, .string b] 9)).cell? ⟨gd, 5, none⟩ = some (.bool x.dead) := by
    obtain ⟨S1, S2, mn, ms, vo, vp, hh⟩ := h.below b0
    exact hh.cell 5 (by decide)
  have HR := hide (ready_any gd x.dead w.heap.size 2 [a, b] _ c5 (two_names w a b hm hmb) (by simp))
  rw [hrd, show [a, b].length = 2 from rfl] at HR
  have HDo : Hid (∀ W, Below w.heap.size w W → Calls Tryz.prog 121 #[.pointer (some ⟨gd, 0, none⟩), .agg #[.int .i64 2, .string a, .string b, .int .i64 0, .string ⟨#[]⟩]] W fun e w' => e = .returned (.int .i64 0) ∧ DK w' gd (mkC x (mvC a b)) (grow T W w') ∧ Fr T W w') := fun W hb => do_any gd x T (mvC a b) W (h.below hb) hV hp (mv_ok hV.bd ha hn (fnd_some hf).1 h1) hmany hmade
  have HL := hide h.lt
  have B0 := hide b0
  clear h hV hp hf hn ha hmany hmade hm hmb h1 b0 hrd c5
  go_enter Tryz.func127, Tryz.ntmps127
  go_wp2_with (first | (go_at_call 120; refine HR.out.mono ?_; rintro e w1 ⟨rfl, hw⟩; subst w1) | (go_at_call 118; refine HF.out.mono ?_; rintro e w1 ⟨⟨v, rfl, o⟩, hb⟩; have HB := hide (B0.out.trans (hb.mono B0.out.size)); clear hb o) | (go_at_call 121; refine (HDo.out _ HB.out).mono ?_; rintro e w2 ⟨rfl, hd, hf⟩; have HE := hide (dk_grow HB.out HL.out hd hf); clear hd hf))
  go_ret
  exact ⟨rfl, HE.out⟩
end
end Go.Proofs.YtpffaaalncdjcaaGreatDoor
namespace Go.Proofs.YtpffaaalncdjcaaGreatDoor
open Go.RowKit
open Go.Deep
open Go.Lib
set_option linter.unusedVariables false
/-- Texts as bytes. -/
def dl (L : List ByteArray) : List (List UInt8) := L.map fun s => s.data.toList
theorem dl_len (L : List ByteArray) : (dl L).length = L.length := by simp [dl]
theorem dl_app (A B : List ByteArray) : dl (A ++ B) = dl A ++ dl B := by simp [dl]
theorem dl_take (L : List ByteArray) (n : Nat) : dl (L.take n) = (dl L).take n := by simp [dl, List.map_take]
theorem dl_txt (L : List (List UInt8)) : dl (L.map txt) = L := by
  unfold dl
  rw [List.map_map]
  exact List.map_id'' (fun _ => rfl) L
theorem flen_next (L : List ByteArray) (k : Nat) (s : ByteArray) (h : L[k]? = some s) : flen (dl (L.take (k + 1))) = flen (dl (L.take k)) + (16 + s.size) := by
  have hk := (List.getElem?_eq_some_iff.1 h).1
  have he := (List.getElem?_eq_some_iff.1 h).2
  rw [List.take_succ_eq_append_getElem hk, he, dl_app]
  show flen (dl (L.take k) ++ [s.data.toList]) = _
  rw [flen_snoc]
  simp
theorem flen_le (L : List (List UInt8)) (n : Nat) : flen (L.take n) ≤ flen L := by
  unfold flen
  have : (L.map fun s => 16 + s.length).sum = ((L.take n).map fun s => 16 + s.length).sum + ((L.drop n).map fun s => 16 + s.length).sum := by
    rw [← List.sum_append, ← List.map_append, List.take_append_drop]
  omega
theorem LX.cellS {w : World} {g off n c : Nat} {L : List ByteArray} (h : LX KSJ w (.slice (some ⟨g, off, none⟩) n c) L) (k : Nat) (s : ByteArray) (hk : L[k]? = some s) : w.cell? ⟨g, off + k, none⟩ = some (.string s) := by
  have hlt := (List.getElem?_eq_some_iff.1 hk).1
  have he := (List.getElem?_eq_some_iff.1 hk).2
  have := h.range k hlt 0 (.string L[k]) rfl
  rw [he, show off + k * KSJ.k + 0 = off + k by show off + k * 1 + 0 = _; omega] at this
  exact this
section
set_option maxRecDepth 10000
set_option maxHeartbeats 2000000
theorem fileLong_any (L : List ByteArray) (v : Value) (w : World) (hv : LX KSJ w v L) (hb : flen (dl L) ≤ 1099511627776) : Calls Tryz.prog 112 #[v] w fun e w' => e = .returned (.int .i64 (flen (dl L) : Nat)) ∧ w' = w := by
  have HV := hide hv
  obtain ⟨ao, cc, rfl⟩ := hv.form
  have HB := hide hb
  have h16 : 16 * L.length ≤ flen (dl L) := by
    clear hv HV hb HB
    unfold flen
    induction L with
    | nil => simp
    | cons a r ih =>
      simp only [dl, List.map_cons, List.sum_cons, List.length_cons] at ih ⊢
      omega
  clear hv
  go_enter Tryz.func112, Tryz.ntmps112
  go_upto_region 3 with fail
  go_loop [3, 8] (fun lg i => ∃ k : Nat, k ≤ L.length ∧ i = .int .i64 (k : Int) ∧ lg = .int .i64 (flen (dl (L.take k)) : Nat)) (fun lg i => (L.length - intOf i).toNat)
  case atStart => exact ⟨0, Nat.zero_le _, rfl, rfl⟩
  case round =>
    obtain ⟨k, hk, rfl, rfl⟩ := hrel
    by_cases hlt : k < L.length
    · obtain ⟨s, hs⟩ : ∃ s, L[k]? = some s := ⟨_, List.getElem?_eq_getElem hlt⟩
      obtain ⟨g, off, rfl⟩ := HV.out.base (by omega)
      have hc := HV.out.cellS k s hs
      have h1 : (0 : Int) ≤ (k : Int) := by omega
      have h2 : (k : Int) < L.length := by omega
      have h3 := flen_next L k s hs
      have h4 := flen_le (dl L) (k + 1)
      rw [← dl_take] at h4
      have hb := HB.out
      have e1 : IntKind.i64.wrap ((k : Int) + 1) = k + 1 := wrapI _ (by omega) (by omega)
      have e2 : IntKind.i64.wrap (16 + (s.size : Int)) = 16 + (s.size : Int) := wrapI _ (by omega) (by omega)
      have KK : Hid (∀ N : Nat, N = flen (dl (L.take k)) → ((N : Int) + (16 + (s.size : Int)) = (flen (dl (L.take (k + 1))) : Nat))) := fun N hN => by
        rw [h3, hN]
        omega
      have h5 : flen (dl (L.take k)) ≤ 1099511627776 := by omega
      generalize hN : flen (dl (L.take k)) = N at *
      have e3 : IntKind.i64.wrap ((N : Int) + (16 + (s.size : Int))) = (N : Int) + (16 + (s.size : Int)) := wrapI _ (by omega) (by omega)
      have K2 := hide (KK.out N rfl)
      clear h3 h4 hs hN KK
      go_wp2
      go_round
      case rel => exact ⟨k + 1, by omega, by go_num, by rw [← K2.out]⟩
      case measure => simp [intOf]; omega
    · have h2 : ¬ (k : Int) < L.length := by omega
      rw [List.take_of_length_le (by omega)]
      go_wp2
      go_ret
      exact ⟨rfl, rfl⟩
variable {K : Nat → Prop} {B w : World} {gj gd : Nat} {J : Jr} {x : StD} {T : Nat → Prop} {v : Value}
end
end Go.Proofs.YtpffaaalncdjcaaGreatDoor
