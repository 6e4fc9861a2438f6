/- Frames: the mathematics. -/
import Derived.Test.YtjcfojedahgfpaaDoorFn
namespace Go.Proofs.YtjcfojedahgfpaaDoor
/-- The digest of a text. -/
def dig2 (p : List UInt8) : List UInt8 := digest (digest p)
/-- A payload's checksum. -/
def sumN (p : List UInt8) : Nat := leN ((dig2 p).take 4)
def okB (b : UInt8) : Bool := decide (33 ≤ b.toNat) && decide (b.toNat ≤ 126)
def okCmd (l : List UInt8) : Bool := l.all okB && (decide (1 ≤ l.length) && decide (l.length ≤ 12))
def trimZ (l : List UInt8) : List UInt8 := (l.reverse.dropWhile (· == 0)).reverse
def likeM (m : Nat) (s : List UInt8) : Bool := s.take 4 == (lowL m 4).take s.length
/-- What a head says: the error, the command, the payload's length, its sum. -/
structure Hd where
  err : Int
  cmd : List UInt8
  long : Nat
  sum : Nat
def headM (m : Nat) (s : List UInt8) : Hd :=
  if likeM m s = false then ⟨80, [], 0, 0⟩
  else if s.length < 24 then ⟨4, [], 0, 0⟩
  else if okCmd (trimZ ((s.drop 4).take 12)) = false then ⟨81, [], 0, 0⟩
  else if 16384 < leN ((s.drop 16).take 4) then ⟨82, [], 0, 0⟩
  else ⟨0, trimZ ((s.drop 4).take 12), leN ((s.drop 16).take 4), leN ((s.drop 20).take 4)⟩
/-- What is read: the error, the command, the payload, the place behind. -/
structure Dc where
  err : Int
  cmd : List UInt8
  pay : List UInt8
  pl : Int
def Dc.bad (e : Int) : Dc := ⟨e, [], [], 0⟩
def decM (m : Nat) (s : List UInt8) (at_ : Int) : Dc :=
  if at_ < 0 ∨ (s.length : Int) < at_ then Dc.bad 1
  else
    let t := s.drop at_.toNat
    let h := headM m t
    if h.err ≠ 0 then Dc.bad h.err
    else if t.length < 24 + h.long then Dc.bad 4
    else
      let p := (t.drop 24).take h.long
      if sumN p ≠ h.sum then Dc.bad 83
      else ⟨0, h.cmd, p, at_ + 24 + h.long⟩
def encB (m : Nat) (c p : List UInt8) : List UInt8 := lowL m 4 ++ c ++ List.replicate (12 - c.length) 0 ++ lowL p.length 4 ++ lowL (sumN p) 4 ++ p
def encE (c p : List UInt8) : Int := if okCmd c = false then 81 else if 16384 < p.length then 82 else 0
def encT (m : Nat) (c p : List UInt8) : List UInt8 := if encE c p = 0 then encB m c p else []
/-- A stream. -/
structure Sq where
  magic : Nat
  held : List UInt8
  broken : Int
  taken : Int
def Sq.feed (x : Sq) (s : List UInt8) : Sq × Nat :=
  if x.broken ≠ 0 then (x, 0) else ({ x with held := x.held ++ s.take (32816 - x.held.length) }, min s.length (32816 - x.held.length))
/-- What Next tells: the error, whether there is a frame, its command and payload. -/
structure Nx where
  err : Int
  ok : Bool
  cmd : List UInt8
  pay : List UInt8
def Sq.frontE (x : Sq) : Int := if (headM x.magic x.held).err = 4 then 0 else (headM x.magic x.held).err
def Sq.whole (x : Sq) : Nat := 24 + (headM x.magic x.held).long
def Sq.next (x : Sq) : Sq × Nx :=
  if x.broken ≠ 0 then (x, ⟨x.broken, false, [], []⟩)
  else if x.frontE ≠ 0 then ({ x with broken := x.frontE, held := [] }, ⟨x.frontE, false, [], []⟩)
  else if x.held.length < x.whole then (x, ⟨0, false, [], []⟩)
  else
    let d := decM x.magic x.held 0
    if d.err ≠ 0 then ({ x with held := x.held.drop x.whole }, ⟨d.err, false, [], []⟩)
    else ({ x with held := x.held.drop x.whole, taken := IntKind.i64.wrap (x.taken + 1) }, ⟨0, true, d.cmd, d.pay⟩)
def Sq.need (x : Sq) : Nat := if x.broken ≠ 0 ∨ x.frontE ≠ 0 then 0 else x.whole - x.held.length
theorem headM_err (m : Nat) (s : List UInt8) : (headM m s).err = 80 ∨ (headM m s).err = 4 ∨ (headM m s).err = 81 ∨ (headM m s).err = 82 ∨ (headM m s).err = 0 := by
  unfold headM
  (repeat' split) <;> simp
theorem headM_long (m : Nat) (s : List UInt8) : (headM m s).long ≤ 16384 := by
  unfold headM
  (repeat' split) <;> simp
  omega
theorem headM_bad {m : Nat} {s : List UInt8} (h : (headM m s).err ≠ 0) : (headM m s).long = 0 ∧ (headM m s).cmd = [] := by
  revert h
  unfold headM
  (repeat' split) <;> simp
theorem headM_ok {m : Nat} {s : List UInt8} (h : (headM m s).err = 0) : 24 ≤ s.length := by
  revert h
  unfold headM
  (repeat' split) <;> simp
  omega
theorem take_app_len {α : Type} (a b : List α) (n : Nat) (h : n = a.length) : (a ++ b).take n = a := by subst h; simp
theorem drop_app_len {α : Type} (a b : List α) (n : Nat) (h : n = a.length) : (a ++ b).drop n = b := by subst h; simp
/-- A head depends on 24 bytes alone. -/
theorem headM_app (m : Nat) (s t : List UInt8) (h : 24 ≤ s.length) : headM m (s ++ t) = headM m s := by
  have h1 : ∀ k n, k + n ≤ 24 → ((s ++ t).drop k).take n = (s.drop k).take n := by
    intro k n hk
    rw [List.drop_append_of_le_length (by omega), List.take_append_of_le_length (by rw [List.length_drop]; omega)]
  have h2 : likeM m (s ++ t) = likeM m s := by
    unfold likeM
    rw [List.take_append_of_le_length (by omega), List.take_of_length_le (l := lowL m 4) (i := (s ++ t).length) (by rw [lowL_len, List.length_append]; omega), List.take_of_length_le (l := lowL m 4) (i := s.length) (by rw [lowL_len]; omega)]
  unfold headM
  rw [h2, h1 4 12 (by omega), h1 16 4 (by omega), h1 20 4 (by omega), if_neg (show ¬ (s ++ t).length < 24 by rw [List.length_append]; omega), if_neg (show ¬ s.length < 24 by omega)]
theorem dropZ_rep (k : Nat) (l : List UInt8) : List.dropWhile (fun x : UInt8 => x == 0) (List.replicate k 0 ++ l) = List.dropWhile (fun x : UInt8 => x == 0) l := by
  induction k with
  | zero => rfl
  | succ k ih => rw [List.replicate_succ, List.cons_append, List.dropWhile_cons, if_pos (by decide), ih]
theorem trimZ_pad (c : List UInt8) (k : Nat) (h : c.all okB = true) : trimZ (c ++ List.replicate k 0) = c := by
  unfold trimZ
  rw [List.reverse_append, List.reverse_replicate, dropZ_rep]
  have h1 : List.dropWhile (fun x : UInt8 => x == 0) c.reverse = c.reverse := by
    rw [← List.all_reverse] at h
    cases hr : c.reverse with
    | nil => rfl
    | cons x r =>
      rw [hr, List.all_cons, Bool.and_eq_true] at h
      have hx := h.1
      simp only [okB, Bool.and_eq_true, decide_eq_true_eq] at hx
      rw [List.dropWhile_cons, if_neg]
      intro e
      rw [beq_iff_eq] at e
      subst e
      simp at hx
  rw [h1, List.reverse_reverse]
theorem leN_lowL (k n : Nat) (h : n < 256 ^ k) : leN (lowL n k) = n := by
  induction k generalizing n with
  | zero => simp [lowL, leN] at *; omega
  | succ k ih =>
    rw [lowL, leN, ih (n / 256) (by rw [Nat.pow_succ] at h; omega), UInt8.toNat_ofNat']
    omega
theorem sumN_lt (p : List UInt8) : sumN p < 4294967296 := by
  have := leN_lt ((dig2 p).take 4)
  have h2 : 256 ^ ((dig2 p).take 4).length ≤ 256 ^ 4 := Nat.pow_le_pow_right (by decide) (by rw [List.length_take]; omega)
  have : (256 : Nat) ^ 4 = 4294967296 := by decide
  unfold sumN
  omega
theorem encB_len (m : Nat) (c p : List UInt8) (h : c.length ≤ 12) : (encB m c p).length = 24 + p.length := by
  simp [encB, lowL_len]
  omega
theorem okCmd_len {c : List UInt8} (h : okCmd c = true) : 1 ≤ c.length ∧ c.length ≤ 12 := by
  simp [okCmd] at h
  omega
theorem okCmd_all {c : List UInt8} (h : okCmd c = true) : c.all okB = true := by
  unfold okCmd at h
  rw [Bool.and_eq_true] at h
  exact h.1
theorem encB_head (m : Nat) (c p t : List UInt8) (hc : okCmd c = true) (hp : p.length ≤ 16384) : headM m (encB m c p ++ t) = ⟨0, c, p.length, sumN p⟩ := by
  have hl := okCmd_len hc
  have e : encB m c p ++ t = lowL m 4 ++ ((c ++ List.replicate (12 - c.length) 0) ++ (lowL p.length 4 ++ (lowL (sumN p) 4 ++ (p ++ t)))) := by simp [encB]
  have z : (c ++ List.replicate (12 - c.length) (0 : UInt8)).length = 12 := by rw [List.length_append, List.length_replicate]; omega
  have a1 : ((encB m c p ++ t).drop 4).take 12 = c ++ List.replicate (12 - c.length) 0 := by
    rw [e, drop_app_len _ _ 4 (by rw [lowL_len]), take_app_len _ _ 12 z.symm]
  have a2 : ((encB m c p ++ t).drop 16).take 4 = lowL p.length 4 := by
    rw [e, ← List.append_assoc, drop_app_len _ _ 16 (by rw [List.length_append, lowL_len, z]), take_app_len _ _ 4 (by rw [lowL_len])]
  have a3 : ((encB m c p ++ t).drop 20).take 4 = lowL (sumN p) 4 := by
    rw [e, ← List.append_assoc, ← List.append_assoc, drop_app_len _ _ 20 (by rw [List.length_append, List.length_append, lowL_len, lowL_len, z]), take_app_len _ _ 4 (by rw [lowL_len])]
  have a4 : likeM m (encB m c p ++ t) = true := by
    unfold likeM
    rw [e, take_app_len _ _ 4 (by rw [lowL_len]), List.take_of_length_le (by rw [lowL_len, List.length_append, lowL_len]; omega)]
    simp
  have a5 : ¬ (encB m c p ++ t).length < 24 := by rw [List.length_append, encB_len m c p hl.2]; omega
  unfold headM
  rw [a1, a2, a3, a4, trimZ_pad c _ (okCmd_all hc), hc, leN_lowL 4 _ (by omega), leN_lowL 4 _ (sumN_lt p), if_neg (by decide), if_neg a5, if_neg (by decide), if_neg (by omega)]
theorem encB_dec (m : Nat) (c p t : List UInt8) (hc : okCmd c = true) (hp : p.length ≤ 16384) : decM m (encB m c p ++ t) 0 = ⟨0, c, p, 24 + p.length⟩ := by
  have hl := okCmd_len hc
  have e : encB m c p ++ t = (lowL m 4 ++ c ++ List.replicate (12 - c.length) 0 ++ lowL p.length 4 ++ lowL (sumN p) 4) ++ (p ++ t) := by simp [encB]
  have a5 : ¬ (encB m c p ++ t).length < 24 + p.length := by rw [List.length_append, encB_len m c p hl.2]; omega
  have a6 : ((encB m c p ++ t).drop 24).take p.length = p := by
    rw [e, drop_app_len _ _ 24 (by simp [lowL_len]; omega), take_app_len _ _ _ rfl]
  unfold decM
  rw [if_neg (by omega)]
  simp only [Int.toNat_zero, List.drop_zero]
  rw [encB_head m c p t hc hp]
  simp only
  rw [if_neg (by decide), if_neg a5, a6, if_neg (by simp)]
  simp
end Go.Proofs.YtjcfojedahgfpaaDoor
