/- Disks that a call made for itself, and awake. -/
import Derived.Test.YtpjpgmfcmjdkbaaDu
namespace Go.Proofs.Ytpjpgmfcmjdkbaa
open Go.RowKit
open Go.Deep
open Go.Lib
theorem Vd.mkC {x : St} {c : Ch} (h : Vd x) (ok : okD x.now c) (h1 : x.loose.length < 10000) (h2 : x.made < 1000000) : Vd (mkC x c) := by
  refine ⟨?_, ?_, ?_, ?_⟩
  · exact okM.snoc h.ok (by show okD (doL x.sure x.loose) c; rw [← h.now]; exact ok)
  · show doC x.now c = doL x.sure (x.loose ++ [c])
    rw [h.now]
    simp [doL]
  · show (x.loose ++ [c]).length ≤ 10000
    simp
    omega
  · show x.made + 1 ≤ 1000000
    omega
theorem Vd.syC {x : St} (h : Vd x) : Vd (syC x) := ⟨h.ok.end_, h.now, Nat.zero_le _, h.made⟩
theorem Vd.up {x : St} (h : Vd x) : Vd { x with dead := false } := ⟨h.ok, h.now, h.many, h.made⟩
def x0 : St := ⟨FS.none, FS.none, [], 0, [], false⟩
theorem Vd.x0 : Vd x0 := ⟨⟨Nat.zero_le _, fun _ => Nat.zero_le _⟩, rfl, Nat.zero_le _, Nat.zero_le _⟩
theorem Vd.bd {x : St} (h : Vd x) : Bd x.now := by rw [h.now]; exact h.ok.end_
/-- A disk that was made behind B, and all of its memory with it. -/
structure DB (B w : World) (gd : Nat) (x : St) (T : Nat → Prop) : Prop where
  dk : DK w gd x T
  bel : Below B.heap.size B w
  far : ∀ g, T g → B.heap.size ≤ g
section
variable {B w w' : World} {gd : Nat} {x x' : St} {T : Nat → Prop}
theorem DB.step (h : DB B w gd x T) (hd : DK w' gd x' (grow T w w') ∧ Fr T w w') : DB B w' gd x' (grow T w w') :=
  ⟨hd.1, h.bel.trans (hd.2.below h.bel.size h.far), fun g hg => by
    rcases hg with hg | ⟨hg, _⟩
    · exact h.far g hg
    · exact Nat.le_trans h.bel.size hg⟩
theorem DB.next (h : DB B w gd x T) (hb : Below w.heap.size w w') : DB B w' gd x T := ⟨h.dk.below hb, h.bel.trans (hb.mono h.bel.size), h.far⟩
theorem DB.up (h : DB B w gd x T) (hd : DK w' gd x' T ∧ Fr T w w') : DB B w' gd x' T := ⟨hd.1, h.bel.trans (hd.2.below h.bel.size h.far), h.far⟩
end
/-- The name of the first file. -/
def nmA : ByteArray := ⟨#[97]⟩
def x1 : St := mkC x0 (wrC nmA 0 ⟨#[120, 121]⟩)
def x2 : St := syC x1
def x3 : St := mkC x2 (wrC nmA 2 ⟨#[122]⟩)
def x4 : St := crC x3 0 0
theorem rA : rdy false [nmA] = 0 := by decide +kernel
theorem at2 : (x2.now.at (ls nmA)).length = 2 := by decide +kernel
theorem v1 : Vd x1 := Vd.x0.mkC (wr_ok Vd.x0.bd (by decide +kernel) (Nat.zero_le _) (by decide) (.inr (by decide))) (by decide) (by decide)
theorem v2 : Vd x2 := v1.syC
theorem v3 : Vd x3 := v2.mkC (wr_ok v2.bd (by decide +kernel) (by rw [at2]; exact Nat.le_refl _) (by decide) (.inl (by decide +kernel))) (by decide) (by decide)
theorem v4 : Vd x4 := flC_vd v3 0 0
theorem f5 : fnd { x4 with dead := false } nmA = 0 := by decide +kernel
theorem a5 : { x4 with dead := false }.now.at (ls nmA) = [120, 121] := by decide +kernel
section
set_option maxRecDepth 10000
set_option maxHeartbeats 4000000
theorem awake_any (w : World) : Calls Try.prog 8 #[] w fun e w' => e = .returned (.bool true) ∧ Below w.heap.size w w' := by
  have HN := hide (new_any w)
  have HW := hide fun gd T W h => write_ok gd x0 T nmA 0 ⟨#[120, 121]⟩ W h Vd.x0 rfl rA (Nat.zero_le _) (by decide) (.inr (by decide)) (by decide) (by decide)
  have HS := hide fun gd T W h => sync_ok gd x1 T W h v1 rfl rfl
  have HA := hide fun gd T W h => append_ok gd x2 T nmA ⟨#[122]⟩ W h v2 rfl rA (by rw [at2]; decide) (.inl (by decide +kernel)) (by decide) (by decide)
  have HC := hide fun gd T W h => crash_any gd x3 T 0 0 W h v3 (by decide) (by decide)
  have HU := hide fun gd T W h => up_any gd x4 T W h
  have HR := hide fun gd T W h => read_any gd { x4 with dead := false } T nmA W h (by decide)
  rw [at2] at HA
  rw [show x4.dead = true from by decide +kernel] at HU
  rw [f5, if_pos rfl, a5] at HR
  unfold nmA at HW HA HR
  go_enter Try.func8, Try.ntmps8
  go_wp2_with (first | (go_at_call 7; refine HN.out.mono ?_; rintro e w1 ⟨rfl, hd, hb⟩; have J1 : Hid (DB w w1 w.heap.size x0 (fun g => g = w.heap.size)) := ⟨hd, hb, fun g hg => by omega⟩; clear hd hb) | (go_at_call 16; refine (HW.out _ _ _ J1.out.dk).mono ?_; rintro e w2 ⟨rfl, hd⟩; have J2 := hide (J1.out.step hd); clear hd J1) | (go_at_call 12; refine (HS.out _ _ _ J2.out.dk).mono ?_; rintro e w3 ⟨rfl, hd⟩; have J3 := hide (J2.out.step hd); clear hd J2) | (go_at_call 11; refine (HA.out _ _ _ J3.out.dk).mono ?_; rintro e w4 ⟨rfl, hd⟩; have J4 := hide (J3.out.step hd); clear hd J3) | (go_at_call 13; refine (HC.out _ _ _ J4.out.dk).mono ?_; rintro e w5 ⟨⟨r, rfl⟩, hd⟩; have J5 := hide (J4.out.step hd); clear hd J4) | (go_at_call 14; refine (HU.out _ _ _ J5.out.dk).mono ?_; rintro e w6 ⟨rfl, hd, hf, hz⟩; have J6 := hide (J5.out.up ⟨hd, hf⟩); clear hd hf hz J5) | (go_at_call 15; refine (HR.out _ _ _ J6.out.dk).mono ?_; rintro e w7 ⟨rfl, hb⟩; have J7 := hide (J6.out.next hb); clear hb J6))
  go_ret
  exact ⟨rfl, J7.out.bel⟩
end
end Go.Proofs.Ytpjpgmfcmjdkbaa
