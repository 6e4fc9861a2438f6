/- A disk that is filled, and a file that is. -/
import Derived.Test.YtpjpgmfcmjdkbaaDyb
namespace Go.Proofs.Ytpjpgmfcmjdkbaa
open Go.RowKit
open Go.Deep
open Go.Lib
def nmS : ByteArray := ⟨#[97, 98, 99, 100, 101, 102, 103, 104]⟩
/-- The name of the file i. -/
def nm2 (i : Nat) : ByteArray := nmS.extract (i / 8) (i / 8 + 1) ++ nmS.extract (i % 8) (i % 8 + 1)
def nmN : ByteArray := ⟨#[110, 101, 119]⟩
def nmE : ByteArray := ⟨#[]⟩
theorem nm2_all : ∀ i : Fin 64, isName (ls (nm2 i.1)) = true ∧ ls (nm2 i.1) ≠ ls nmN := by decide +kernel
theorem nm2_two : ∀ i j : Fin 64, ls (nm2 i.1) = ls (nm2 j.1) → i = j := by decide +kernel
theorem nm2_name {i : Nat} (h : i < 64) : isName (ls (nm2 i)) = true := (nm2_all ⟨i, h⟩).1
theorem nm2_new {i : Nat} (h : i < 64) : ls (nm2 i) ≠ ls nmN := (nm2_all ⟨i, h⟩).2
theorem nm2_inj {i j : Nat} (hi : i < 64) (hj : j < 64) (h : ls (nm2 i) = ls (nm2 j)) : i = j := congrArg Fin.val (nm2_two ⟨i, hi⟩ ⟨j, hj⟩ h)
theorem nmN_name : isName (ls nmN) = true := by decide +kernel
theorem rdy_of {nm : ByteArray} (h : isName (ls nm) = true) : rdy false [nm] = 0 := by
  unfold rdy
  simp [h]
theorem nm_le {nm : ByteArray} (h : isName (ls nm) = true) : nm.size ≤ maxLen := by
  have := (name_len h).2
  have e : (ls nm).length = nm.size := by simp
  unfold maxLen
  omega
/-- A disk that holds the first k files, all empty. -/
structure Fil (x : St) (k : Nat) : Prop where
  vd : Vd x
  plan : x.plan = []
  dead : x.dead = false
  n : x.now.n = k
  has : ∀ i, i < 64 → (x.now.get (ls (nm2 i))).isSome = decide (i < k)
  emp : ∀ l, x.now.at l = []
  new : x.now.get (ls nmN) = none
  many : x.loose.length = k
  made : x.made = k
theorem Fil.x0 : Fil x0 0 := ⟨Vd.x0, rfl, rfl, rfl, fun _ _ => rfl, fun _ => rfl, rfl, rfl, rfl⟩
theorem Fil.add {x : St} {k : Nat} (h : Fil x k) (hk : k < 64) : Fil (mkC x (wrC (nm2 k) 0 nmE)) (k + 1) := by
  have hm := h.many
  have hmd := h.made
  have hn := h.n
  have hno : (x.now.get (ls (nm2 k))).isSome = false := by rw [h.has k hk]; simp
  have ok : okD x.now (wrC (nm2 k) 0 nmE) := wr_ok h.vd.bd (nm2_name hk) (Nat.zero_le _) (by decide) (.inr (by omega))
  have hnow : (mkC x (wrC (nm2 k) 0 nmE)).now = x.now.put (ls (nm2 k)) (wr8 (x.now.at (ls (nm2 k))) 0 (ls nmE)) := rfl
  have hw : wr8 (x.now.at (ls (nm2 k))) 0 (ls nmE) = [] := by rw [h.emp]; rfl
  rw [hw] at hnow
  refine ⟨h.vd.mkC ok (by omega) (by omega), h.plan, h.dead, ?_, fun i hi => ?_, fun l => ?_, ?_, ?_, ?_⟩
  · rw [hnow]
    show (if (x.now.get (ls (nm2 k))).isSome then x.now.n else x.now.n + 1) = k + 1
    rw [hno, if_neg (by decide), hn]
  · rw [hnow, FS.put_get]
    by_cases e : i = k
    · subst e
      rw [if_pos rfl]
      simp
    · rw [if_neg fun c => e (nm2_inj hi hk c), h.has i hi]
      rw [Bool.eq_iff_iff]
      simp
      omega
  · rw [hnow, at_put]
    split
    · rfl
    · exact h.emp l
  · rw [hnow, FS.put_get, if_neg (Ne.symm (nm2_new hk))]
    exact h.new
  · show (x.loose ++ [_]).length = k + 1
    simp
    omega
  · show x.made + 1 = k + 1
    omega
theorem Fil.full {x : St} (h : Fil x 64) : wrE x nmN 0 nmE = 71 := by
  unfold wrE
  rw [h.dead, rdy_of nmN_name, if_pos rfl, if_neg (by omega), if_pos (.inr ⟨by rw [h.new]; rfl, by have := h.n; omega⟩)]
/-- A disk with an empty file of that name. -/
structure Lon (x : St) : Prop where
  vd : Vd x
  plan : x.plan = []
  dead : x.dead = false
  has : (x.now.get (ls (nm2 1))).isSome = true
  emp : x.now.at (ls (nm2 1)) = []
  many : x.loose.length ≤ 1000
  made : x.made ≤ 1000
/-- The three changes of a full disk. -/
def y1 (x : St) : St := mkC x (wrC (nm2 0) 0 ⟨#[120]⟩)
def y2 (x : St) : St := mkC (y1 x) (rmC (nm2 63))
def y3 (x : St) : St := mkC (y2 x) (wrC nmN 0 ⟨#[121]⟩)
structure Fin3 (x : St) : Prop where
  v1 : Vd (y1 x)
  v2 : Vd (y2 x)
  f1 : fnd (y1 x) (nm2 63) = 0
  h0 : (x.now.get (ls (nm2 0))).isSome = true
  n2 : (y2 x).now.n < 64
  l1 : x.loose.length = 64
  m1 : x.made = 64
  lon : Lon (y3 x)
theorem Fil.fin {x : St} (h : Fil x 64) : Fin3 x := by
  have hn := h.n
  have hm := h.many
  have hmd := h.made
  have h0 : (x.now.get (ls (nm2 0))).isSome = true := by rw [h.has 0 (by decide)]; rfl
  have o1 : okD x.now (wrC (nm2 0) 0 ⟨#[120]⟩) := wr_ok h.vd.bd (nm2_name (by decide)) (Nat.zero_le _) (by decide) (.inl h0)
  have v1 : Vd (y1 x) := h.vd.mkC o1 (by omega) (by omega)
  have e1 : (y1 x).now = x.now.put (ls (nm2 0)) [120] := by
    show x.now.put (ls (nm2 0)) (wr8 (x.now.at (ls (nm2 0))) 0 [120]) = _
    rw [h.emp]
    rfl
  have g1 : ∀ i, i < 64 → ((y1 x).now.get (ls (nm2 i))).isSome = true := fun i hi => by
    rw [e1, FS.put_get]
    split
    · rfl
    · rw [h.has i hi]
      simpa using hi
  have l1 : (y1 x).loose.length = 65 := by
    show (x.loose ++ [_]).length = 65
    simp
    omega
  have d1 : (y1 x).made = 65 := by
    show x.made + 1 = 65
    omega
  have v2 : Vd (y2 x) := v1.mkC (rm_ok v1.bd (nm2_name (by decide))) (by omega) (by omega)
  have e2 : (y2 x).now = (y1 x).now.del (ls (nm2 63)) := rfl
  have n1 : (y1 x).now.n = 64 := by
    rw [e1]
    show (if (x.now.get (ls (nm2 0))).isSome then x.now.n else x.now.n + 1) = 64
    rw [h0, if_pos rfl, hn]
  have n2 : (y2 x).now.n = 63 := by
    rw [e2]
    show (if ((y1 x).now.get (ls (nm2 63))).isSome then (y1 x).now.n - 1 else (y1 x).now.n) = 63
    rw [g1 63 (by decide), if_pos rfl, n1]
  have l2 : (y2 x).loose.length = 66 := by
    show ((y1 x).loose ++ [_]).length = 66
    simp
    omega
  have d2 : (y2 x).made = 66 := by
    show (y1 x).made + 1 = 66
    omega
  have v3 : Vd (y3 x) := v2.mkC (wr_ok v2.bd nmN_name (Nat.zero_le _) (by decide) (.inr (by omega))) (by omega) (by omega)
  have e3 : (y3 x).now = (y2 x).now.put (ls nmN) (wr8 ((y2 x).now.at (ls nmN)) 0 [121]) := rfl
  have k1 : ls (nm2 1) ≠ ls nmN := nm2_new (by decide)
  have k2 : ls (nm2 1) ≠ ls (nm2 63) := fun e => absurd (nm2_inj (by decide) (by decide) e) (by decide)
  have k3 : ls (nm2 1) ≠ ls (nm2 0) := fun e => absurd (nm2_inj (by decide) (by decide) e) (by decide)
  refine ⟨v1, v2, ?_, h0, by omega, hm, hmd, ⟨v3, h.plan, h.dead, ?_, ?_, ?_, ?_⟩⟩
  · unfold fnd
    rw [show (y1 x).dead = false from h.dead, rdy_of (nm2_name (by decide)), if_pos rfl, g1 63 (by decide), if_pos rfl]
  · rw [e3, FS.put_get, if_neg k1, e2, FS.del_get, if_neg k2]
    exact g1 1 (by decide)
  · rw [e3, at_put, if_neg k1, e2, at_del, if_neg k2, e1, at_put, if_neg k3]
    exact h.emp _
  · show ((y2 x).loose ++ [_]).length ≤ 1000
    simp
    omega
  · show (y2 x).made + 1 ≤ 1000
    omega
theorem lit0 : nm2 0 = ⟨#[97, 97]⟩ := by decide +kernel
theorem lit63 : nm2 63 = ⟨#[104, 104]⟩ := by decide +kernel
theorem lit1 : nm2 1 = ⟨#[97, 98]⟩ := by decide +kernel
end Go.Proofs.Ytpjpgmfcmjdkbaa
