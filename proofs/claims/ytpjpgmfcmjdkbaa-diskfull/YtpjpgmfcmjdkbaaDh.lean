/- Copies: of a file's bytes, of all files. -/
import Derived.Test.YtpjpgmfcmjdkbaaDg
namespace Go.Proofs.Ytpjpgmfcmjdkbaa
open Go.RowKit
open Go.Deep
open Go.Lib
open Go.Maps
theorem eqsl (ao : Option Addr) (n c : Nat) (w : World) : (binOp .eql 81 (.slice ao n c) (.slice none 0 0)).run Try.prog w = .ok (.bool ao.isNone) w := by
  cases ao <;> kernel_rfl
theorem bs0 (w : World) : (Instr.buildSlice 81 0 #[]).run Try.prog w = .ok (.slice (some ⟨w.heap.size, 0, none⟩) 0 0) (w.alloc (.cells #[] 5)) := by
  kernel_rfl
section
set_option maxRecDepth 10000
set_option maxHeartbeats 1000000
theorem cloneB_any (v : Value) (l : List UInt8) (w : World) (h : Own w v l) (hl : l.length ≤ 140737488355328) : Calls Try.prog 63 #[v] w fun e w' => ∃ v', e = .returned v' ∧ Own w' v' l ∧ Below w.heap.size w w' ∧ ∀ g, v'.ownBlock = some g → w.heap.size ≤ g := by
  rcases h.2 with ⟨rfl, h0⟩ | ⟨g, cap, cur, rfl, hb, hg, hnc, hm, hsz, ht⟩
  · have : l = [] := List.eq_nil_of_length_eq_zero h0
    subst this
    have hq := eqsl none 0 0
    go_enter Try.func63, Try.ntmps63
    go_wp2
    go_ret
    exact ⟨_, rfl, Own.nil _, Below.refl _ _, fun g hg => by cases hg⟩
  · have hq := eqsl (some ⟨g, 0, none⟩) l.length cap
    have h5 := bs0
    have HO := hide h
    have HG := hide (And.intro hg hl)
    have O0 : Hid (Own (w.alloc (.cells #[] 5)) (.slice (some ⟨w.heap.size, 0, none⟩) 0 0) []) := World.ownsRow_made w #[] 0 (Nat.zero_le _) (Nat.zero_le _) rfl
    have hB : Below w.heap.size w (w.alloc (.cells #[] 5)) := (Below.refl _ _).alloc (Nat.le_refl _) _
    have hne : Hid (∀ j u, (cellsL l)[j]? = some u → (w.alloc (.cells #[] 5)).cell? ((⟨g, 0, none⟩ : Addr).add j) = some u) := fun j u hu => by
      rw [← World.ownsRow.cells h rfl j u hu, addr_add]
      exact World.cell?_of_block (a := ⟨g, 0 + j, none⟩) (hB.block g (lt_heap hg))
    have HB := hide hB
    clear h hb hg hnc hm hsz ht hl hB
    go_enter Try.func63, Try.ntmps63
    go_wp2_with (first | (at_builtin; refine wpList_app rfl _ _ rfl _ [] rfl O0.out ⟨g, 0, none⟩ l.length cap l rfl rfl hne.out (by have := HG.out.2; simpa using this) ?_; intro v' w' ho on; have OB := hide (And.intro ho on); clear ho on))
    go_ret
    obtain ⟨o, on⟩ := OB.out
    have hsz : w.heap.size ≤ (w.alloc (.cells #[] 5)).heap.size := HB.out.size
    exact ⟨_, rfl, by simpa using o, HB.out.trans (on.below hsz (fun k hk => by cases hk; exact Nat.le_refl _)), on.far hsz (fun k hk => by cases hk; exact Nat.le_refl _)⟩
end
end Go.Proofs.Ytpjpgmfcmjdkbaa
