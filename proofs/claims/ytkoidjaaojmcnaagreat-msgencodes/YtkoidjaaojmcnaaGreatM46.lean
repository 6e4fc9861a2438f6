/- A message while it is read: its cells, its lists, the reader. What a version has, taken out of a payload. -/
import Derived.Test.YtkoidjaaojmcnaaGreatM45
import Derived.Test.YtkoidjaaojmcnaaGreatM38
import Derived.Test.YtkoidjaaojmcnaaGreatM21
namespace Go.Proofs.YtkoidjaaojmcnaaGreat
open Go.RowKit
open Go.Deep
set_option linter.unusedVariables false
set_option linter.unusedSimpArgs false
def Kbg (b g : Nat) : Nat → Prop := fun k => k = b ∨ k = g
/-- While a message is read: all of A's blocks stay but the reader's and the message's; its lists can be read, whatever is done to the blocks of K. -/
structure Mx (K : Nat → Prop) (A W : World) (b : Nat) (t : ByteArray) (R : List UInt8) (g5 : Nat) (m : Mg) (v : Vs) : Prop where
  fr : Rfk (Kbg b g5) A W
  rd : Gr W b t R
  row : W.heap[g5]? = some (.cells (m.cells v).toArray 38 (0, 0))
  ne : b ≠ g5
  kb : K b
  kg : K g5
  kl : ∀ j, K j → j < A.heap.size
  ls : ∀ W', Rfk K W W' → ML W' v m
theorem Rfk.refl (K : Nat → Prop) (w : World) : Rfk K w w := ⟨rfl, rfl, rfl, Nat.le_refl _, fun _ _ _ => rfl⟩
section
variable {K : Nat → Prop} {A W W' : World} {b g5 : Nat} {t : ByteArray} {R R' : List UInt8} {m m' : Mg} {v v' : Vs}
theorem Mx.read (h : Mx K A W b t R g5 m v) (g : Gr W' b t R') (f : Rfr b W W') : Mx K A W' b t R' g5 m v :=
  ⟨h.fr.trans (Rfk.of f (.inl rfl)), g, (f.block _ (lt_heap h.row) (Ne.symm h.ne)).trans h.row, h.ne, h.kb, h.kg, h.kl, fun W2 f2 => h.ls W2 ((Rfk.of f h.kb).trans f2)⟩
theorem Mx.next (h : Mx K A W b t R g5 m v) (k : Below W.heap.size W W') : Mx K A W' b t R g5 m v := h.read (h.rd.below k) (Rfr.below k)
theorem Mx.base (h : Mx K A W b t R g5 m v) : Mx K W W b t R g5 m v := ⟨Rfk.refl _ _, h.rd, h.row, h.ne, h.kb, h.kg, fun j k => Nat.lt_of_lt_of_le (h.kl j k) h.fr.size, h.ls⟩
theorem Mx.over (h : Rfk (Kbg b g5) A W) (kl : ∀ j, K j → j < A.heap.size) (k : Mx K W W' b t R' g5 m' v') : Mx K A W' b t R' g5 m' v' := ⟨h.trans k.fr, k.rd, k.row, k.ne, k.kb, k.kg, kl, k.ls⟩
theorem Mx.put (h : Mx K A W b t R g5 m v) (f : Rfr g5 W W') (r : W'.heap[g5]? = some (.cells (m'.cells v').toArray 38 (0, 0))) (l : ∀ W2, Rfk K W W2 → ML W2 v m → ML W2 v' m') : Mx K A W' b t R g5 m' v' :=
  ⟨h.fr.trans (Rfk.of f (.inr rfl)), h.rd.at (f.block _ h.rd.lt h.ne), r, h.ne, h.kb, h.kg, h.kl, fun W2 f2 => l W2 ((Rfk.of f h.kg).trans f2) (h.ls W2 ((Rfk.of f h.kg).trans f2))⟩
theorem Mx.cellput (h : Mx K A W b t R g5 m v) (k : Nat) (x : Value) (e : (m.cells v).set k x = m'.cells v') (l : ∀ W2, Rfk K W W2 → ML W2 v m → ML W2 v' m') : Mx K A (W.setCell ⟨g5, k, none⟩ x) b t R g5 m' v' := by
  have r := heap_setCell_same W g5 k _ _ x h.row
  rw [List.setIfInBounds_toArray, e] at r
  exact h.put (Rfr.setCell g5 W k x) r l
theorem Mx.cell (h : Mx K A W b t R g5 m v) (k : Nat) (hk : k < 121) : W.cell? ⟨g5, k, none⟩ = some (mcf m v k) := World.rowIs.cell (mcf_of _ _ h.row) (i := k) hk
theorem Mx.frozen (h : Mx K A W b t R g5 m v) (k : Nat) : W.frozen? ⟨g5, k, none⟩ = false := World.rowIs.frozen (mcf_of _ _ h.row) k
theorem Mx.there (h : Mx K A W b t R g5 m v) (o n : Nat) (hn : o + n ≤ 121) : W.there g5 o n := fun j hj => by
  refine ⟨?_, frozen_of_row W g5 _ _ _ h.row⟩
  rw [cell_of_row _ _ _ _ _ _ h.row, Array.getElem?_eq_getElem (by rw [m.size]; omega)]
  rfl
theorem Mx.vers (h : Mx K A W b t R g5 m v) (x : UInt32) : Mx K A (W.setCell ⟨g5, 1, none⟩ (.int .u32 (x.toNat : Int))) b t R g5 { m with vers := x } v := h.cellput 1 _ rfl fun _ _ l => ⟨l.a, l.i, l.h, l.hd, l.sh, l.f, l.p, l.r⟩
theorem Mx.serv (h : Mx K A W b t R g5 m v) (x : UInt64) : Mx K A (W.setCell ⟨g5, 2, none⟩ (.int .u64 (x.toNat : Int))) b t R g5 { m with serv := x } v := h.cellput 2 _ rfl fun _ _ l => ⟨l.a, l.i, l.h, l.hd, l.sh, l.f, l.p, l.r⟩
theorem Mx.nonce (h : Mx K A W b t R g5 m v) (x : UInt64) : Mx K A (W.setCell ⟨g5, 3, none⟩ (.int .u64 (x.toNat : Int))) b t R g5 { m with nonce := x } v := h.cellput 3 _ rfl fun _ _ l => ⟨l.a, l.i, l.h, l.hd, l.sh, l.f, l.p, l.r⟩
theorem Mx.time (h : Mx K A W b t R g5 m v) (x : Int) : Mx K A (W.setCell ⟨g5, 4, none⟩ (.int .i64 x)) b t R g5 { m with time := x } v := h.cellput 4 _ rfl fun _ _ l => ⟨l.a, l.i, l.h, l.hd, l.sh, l.f, l.p, l.r⟩
theorem Mx.agent (h : Mx K A W b t R g5 m v) (x : ByteArray) : Mx K A (W.setCell ⟨g5, 43, none⟩ (.string x)) b t R g5 { m with agent := x } v := h.cellput 43 _ (by rw [show 43 = 43 + 0 from rfl, m.set1 v 0 _ (by decide)]; rfl) fun _ _ l => ⟨l.a, l.i, l.h, l.hd, l.sh, l.f, l.p, l.r⟩
theorem Mx.height (h : Mx K A W b t R g5 m v) (x : UInt32) : Mx K A (W.setCell ⟨g5, 44, none⟩ (.int .u32 (x.toNat : Int))) b t R g5 { m with height := x } v := h.cellput 44 _ (by rw [show 44 = 43 + 1 from rfl, m.set1 v 1 _ (by decide)]; rfl) fun _ _ l => ⟨l.a, l.i, l.h, l.hd, l.sh, l.f, l.p, l.r⟩
theorem Mx.relay (h : Mx K A W b t R g5 m v) (x : Bool) : Mx K A (W.setCell ⟨g5, 45, none⟩ (.bool x)) b t R g5 { m with relay := x } v := h.cellput 45 _ (by rw [show 45 = 43 + 2 from rfl, m.set1 v 2 _ (by decide)]; rfl) fun _ _ l => ⟨l.a, l.i, l.h, l.hd, l.sh, l.f, l.p, l.r⟩
theorem Mx.high (h : Mx K A W b t R g5 m v) (x : Bool) : Mx K A (W.setCell ⟨g5, 46, none⟩ (.bool x)) b t R g5 { m with high := x } v := h.cellput 46 _ (by rw [show 46 = 43 + 3 from rfl, m.set1 v 3 _ (by decide)]; rfl) fun _ _ l => ⟨l.a, l.i, l.h, l.hd, l.sh, l.f, l.p, l.r⟩
theorem Mx.head (h : Mx K A W b t R g5 m v) (x : ByteArray) : Mx K A (W.setCell ⟨g5, 115, none⟩ (.string x)) b t R g5 { m with head := x } v := h.cellput 115 _ (by rw [show 115 = 114 + 1 from rfl, m.set2 v 1 _]; rfl) fun _ _ l => ⟨l.a, l.i, l.h, l.hd, l.sh, l.f, l.p, l.r⟩
theorem Mx.raw (h : Mx K A W b t R g5 m v) (x : ByteArray) : Mx K A (W.setCell ⟨g5, 116, none⟩ (.string x)) b t R g5 { m with raw := x } v := h.cellput 116 _ (by rw [show 116 = 114 + 2 from rfl, m.set2 v 2 _]; rfl) fun _ _ l => ⟨l.a, l.i, l.h, l.hd, l.sh, l.f, l.p, l.r⟩
/-- A list of a call's own making can be read, whatever is done to the reader and the message. -/
theorem OX.keepK {α : Type} {E : Ek α} {u : Value} {L : List α} (o : OX E W u L) (hg : ∀ g, u.ownBlock = some g → ¬ K g) {W2 : World} (f : Rfk K W W2) : LX E W2 u L :=
  (o.of_block fun g h => f.block g (o.lt g h) (hg g h)).read
theorem Mx.far (h : Mx K A W b t R g5 m v) {u : Value} (f : ∀ g, u.ownBlock = some g → W.heap.size ≤ g) : ∀ g, u.ownBlock = some g → ¬ K g := fun g e k => by
  have := f g e
  have := h.kl g k
  have := h.fr.size
  omega
theorem Mx.addrs (h : Mx K A W b t R g5 m v) (u : Value) (L : List Nt) (o : OX KN W u L) (hg : ∀ g, u.ownBlock = some g → ¬ K g) : Mx K A (W.setCell ⟨g5, 47, none⟩ u) b t R g5 { m with addrs := L } (v.ata u) := h.cellput 47 _ (by rw [show 47 = 43 + 4 from rfl, m.set1 v 4 _ (by decide)]; rfl) fun W2 f l => ⟨o.keepK hg f, l.i, l.h, l.hd, l.sh, l.f, l.p, l.r⟩
theorem Mx.items (h : Mx K A W b t R g5 m v) (u : Value) (L : List Im) (o : OX KI W u L) (hg : ∀ g, u.ownBlock = some g → ¬ K g) : Mx K A (W.setCell ⟨g5, 48, none⟩ u) b t R g5 { m with items := L } (v.ati u) := h.cellput 48 _ (by rw [show 48 = 43 + 5 from rfl, m.set1 v 5 _ (by decide)]; rfl) fun W2 f l => ⟨l.a, o.keepK hg f, l.h, l.hd, l.sh, l.f, l.p, l.r⟩
theorem Mx.hashes (h : Mx K A W b t R g5 m v) (u : Value) (L : List Id32) (o : OX KH W u L) (hg : ∀ g, u.ownBlock = some g → ¬ K g) : Mx K A (W.setCell ⟨g5, 49, none⟩ u) b t R g5 { m with hashes := L } (v.ath u) := h.cellput 49 _ (by rw [show 49 = 43 + 6 from rfl, m.set1 v 6 _ (by decide)]; rfl) fun W2 f l => ⟨l.a, l.i, o.keepK hg f, l.hd, l.sh, l.f, l.p, l.r⟩
theorem Mx.heads (h : Mx K A W b t R g5 m v) (u : Value) (L : List ByteArray) (o : OX KS W u L) (hg : ∀ g, u.ownBlock = some g → ¬ K g) : Mx K A (W.setCell ⟨g5, 114, none⟩ u) b t R g5 { m with heads := L } (v.athd u) := h.cellput 114 _ (by rw [show 114 = 114 + 0 from rfl, m.set2 v 0 _]; rfl) fun W2 f l => ⟨l.a, l.i, l.h, o.keepK hg f, l.sh, l.f, l.p, l.r⟩
theorem Mx.shorts (h : Mx K A W b t R g5 m v) (u : Value) (L : List UInt64) (o : OX KU W u L) (hg : ∀ g, u.ownBlock = some g → ¬ K g) : Mx K A (W.setCell ⟨g5, 117, none⟩ u) b t R g5 { m with shorts := L } (v.atsh u) := h.cellput 117 _ (by rw [show 117 = 114 + 3 from rfl, m.set2 v 3 _]; rfl) fun W2 f l => ⟨l.a, l.i, l.h, l.hd, o.keepK hg f, l.f, l.p, l.r⟩
theorem Mx.filled (h : Mx K A W b t R g5 m v) (u : Value) (L : List Fd) (o : OX KF W u L) (hg : ∀ g, u.ownBlock = some g → ¬ K g) : Mx K A (W.setCell ⟨g5, 118, none⟩ u) b t R g5 { m with filled := L } (v.atf u) := h.cellput 118 _ (by rw [show 118 = 114 + 4 from rfl, m.set2 v 4 _]; rfl) fun W2 f l => ⟨l.a, l.i, l.h, l.hd, l.sh, o.keepK hg f, l.p, l.r⟩
theorem Mx.places (h : Mx K A W b t R g5 m v) (u : Value) (L : List Int) (o : OX KP W u L) (hg : ∀ g, u.ownBlock = some g → ¬ K g) : Mx K A (W.setCell ⟨g5, 119, none⟩ u) b t R g5 { m with places := L } (v.atp u) := h.cellput 119 _ (by rw [show 119 = 114 + 5 from rfl, m.set2 v 5 _]; rfl) fun W2 f l => ⟨l.a, l.i, l.h, l.hd, l.sh, l.f, o.keepK hg f, l.r⟩
theorem Mx.raws (h : Mx K A W b t R g5 m v) (u : Value) (L : List ByteArray) (o : OX KS W u L) (hg : ∀ g, u.ownBlock = some g → ¬ K g) : Mx K A (W.setCell ⟨g5, 120, none⟩ u) b t R g5 { m with raws := L } (v.atr u) := h.cellput 120 _ (by rw [show 120 = 114 + 6 from rfl, m.set2 v 6 _]; rfl) fun W2 f l => ⟨l.a, l.i, l.h, l.hd, l.sh, l.f, l.p, o.keepK hg f⟩
theorem Mx.dst (h : Mx K A W b t R g5 m v) (x : Nt) : Mx K A (W.setCells g5 5 x.cells) b t R g5 { m with dst := x } v :=
  h.put (Rfr.setCells g5 _ 5 W) (row_setCells (m.src.cells ++ (m.c1 v ++ (cellsL m.stop.1 ++ (cellsL m.hash.1 ++ m.c2 v)))) g5 _ x.cells m.dst.cells m.c0 W h.row (by rw [Nt.len, Nt.len])) fun _ _ l => ⟨l.a, l.i, l.h, l.hd, l.sh, l.f, l.p, l.r⟩
theorem Mx.src (h : Mx K A W b t R g5 m v) (x : Nt) : Mx K A (W.setCells g5 24 x.cells) b t R g5 { m with src := x } v := by
  have r := row_setCells (m.c1 v ++ (cellsL m.stop.1 ++ (cellsL m.hash.1 ++ m.c2 v))) g5 _ x.cells m.src.cells (m.c0 ++ m.dst.cells) W (by rw [List.append_assoc]; exact h.row) (by rw [Nt.len, Nt.len])
  rw [show (m.c0 ++ m.dst.cells).length = 24 by rw [List.length_append, Nt.len]; rfl, List.append_assoc] at r
  exact h.put (Rfr.setCells g5 _ 24 W) r fun _ _ l => ⟨l.a, l.i, l.h, l.hd, l.sh, l.f, l.p, l.r⟩
theorem Mx.stop (h : Mx K A W b t R g5 m v) (x : Id32) : Mx K A (W.setCells g5 50 (cellsL x.1)) b t R g5 { m with stop := x } v := by
  have r := row_setCells (cellsL m.hash.1 ++ m.c2 v) g5 _ (cellsL x.1) (cellsL m.stop.1) (m.c0 ++ (m.dst.cells ++ (m.src.cells ++ m.c1 v))) W (by simp only [List.append_assoc]; exact h.row) (by rw [cellsL_len, cellsL_len, x.2, m.stop.2])
  rw [show (m.c0 ++ (m.dst.cells ++ (m.src.cells ++ m.c1 v))).length = 50 by rw [List.length_append, List.length_append, List.length_append, Nt.len, Nt.len]; rfl] at r
  simp only [List.append_assoc] at r
  exact h.put (Rfr.setCells g5 _ 50 W) r fun _ _ l => ⟨l.a, l.i, l.h, l.hd, l.sh, l.f, l.p, l.r⟩
theorem Mx.hash (h : Mx K A W b t R g5 m v) (x : Id32) : Mx K A (W.setCells g5 82 (cellsL x.1)) b t R g5 { m with hash := x } v := by
  have r := row_setCells (m.c2 v) g5 _ (cellsL x.1) (cellsL m.hash.1) (m.c0 ++ (m.dst.cells ++ (m.src.cells ++ (m.c1 v ++ cellsL m.stop.1)))) W (by simp only [List.append_assoc]; exact h.row) (by rw [cellsL_len, cellsL_len, x.2, m.hash.2])
  rw [show (m.c0 ++ (m.dst.cells ++ (m.src.cells ++ (m.c1 v ++ cellsL m.stop.1)))).length = 82 by rw [List.length_append, List.length_append, List.length_append, List.length_append, Nt.len, Nt.len, m.stl]; rfl] at r
  simp only [List.append_assoc] at r
  exact h.put (Rfr.setCells g5 _ 82 W) r fun _ _ l => ⟨l.a, l.i, l.h, l.hd, l.sh, l.f, l.p, l.r⟩
end
end Go.Proofs.YtkoidjaaojmcnaaGreat
namespace Go.Proofs.YtkoidjaaojmcnaaGreat
open Go.RowKit
open Go.Deep
set_option linter.unusedVariables false
set_option linter.unusedSimpArgs false
theorem tm64_back (n : Int) (h : -9223372036854775808 ≤ n ∧ n ≤ 9223372036854775807) : IntKind.i64.wrap ((tm64 n : Nat) : Int) = n := by
  have e : ((tm64 n : Nat) : Int) = n % 18446744073709551616 := by unfold tm64; exact Int.toNat_of_nonneg (by omega)
  rw [e]
  have := IntKind.wrap_i64 (n % 18446744073709551616)
  omega
theorem Nt.all' (x : Nt) : x.cells.toArray.all (·.oneCell') = true := all_oneCell_toArray x.one
section
set_option maxRecDepth 10000
set_option maxHeartbeats 2000000
theorem version_on (m p : Mg) (v : Vs) {K : Nat → Prop} {w : World} {b g5 : Nat} {t : ByteArray} {Y : List UInt8} (h : Mx K w w b t (m.payV ++ Y) g5 p v) (ha : m.agent.size ≤ 64) (ht : -9223372036854775808 ≤ m.time ∧ m.time ≤ 9223372036854775807) (hd : m.dst.time = 0) (hr : m.src.time = 0) (hs : t.size ≤ maxLen) :
    Calls Tryz.prog 76 #[pv b t, .pointer (some ⟨g5, 0, none⟩)] w fun e w' => e = .returned (.tuple #[]) ∧ Mx K w w' b t Y g5 { p with vers := m.vers, serv := m.serv, time := m.time, dst := m.dst, src := m.src, nonce := m.nonce, agent := m.agent, height := m.height, relay := m.relay } v := by
  have r1 := heap_alloc_last w (.cells #[.pointer (some ⟨b, 0, none⟩), .string t] 85)
  have b1 := (Below.refl w.heap.size w).alloc (Nat.le_refl _) (.cells #[.pointer (some ⟨b, 0, none⟩), .string t] 85)
  have LB := hide (And.intro h.rd.lt (lt_heap h.row))
  have F0 := hide (Rfk.below (K := Kbg b g5) b1)
  have j0 := (h.next b1).base
  have KL := hide h.kl
  have PX : Hid (∀ W, Rfk (Kbg b g5) (w.alloc (.cells #[.pointer (some ⟨b, 0, none⟩), .string t] 85)) W → W.heap[w.heap.size]? = some (.cells #[.pointer (some ⟨b, 0, none⟩), .string t] 85 (0, 0))) := fun W f => (f.block _ (lt_heap r1) (fun k => by have := LB.out; rcases k with k | k <;> omega)).trans r1
  have PC : Hid (∀ W : World, W.heap[w.heap.size]? = some (.cells #[.pointer (some ⟨b, 0, none⟩), .string t] 85 (0, 0)) → W.cell? ⟨w.heap.size, 0, none⟩ = some (.pointer (some ⟨b, 0, none⟩))) := fun W e => by rw [cell_of_row _ _ _ _ _ _ e]; rfl
  unfold Mg.payV at j0
  simp only [List.append_assoc] at j0
  have ed : ({ m.dst with time := 0 } : Nt) = m.dst := by rw [← hd]
  have es : ({ m.src with time := 0 } : Nt) = m.src := by rw [← hr]
  generalize hR8 : flagL m.relay ++ Y = R8 at j0
  generalize hR7 : lowL m.height.toNat 4 ++ R8 = R7 at j0
  generalize hR6 : rawL m.agent ++ R7 = R6 at j0
  generalize hR5 : lowL m.nonce.toNat 8 ++ R6 = R5 at j0
  generalize hR4 : m.src.bytes ++ R5 = R4 at j0
  generalize hR3 : m.dst.bytes ++ R4 = R3 at j0
  generalize hR2 : lowL (tm64 m.time) 8 ++ R3 = R2 at j0
  generalize hR1 : lowL m.serv.toNat 8 ++ R2 = R1 at j0
  have H1 : Hid (∀ W, Gr W b t (lowL m.vers.toNat 4 ++ R1) → Calls Tryz.prog 82 #[.pointer (some ⟨b, 0, none⟩)] W fun e w' => e = .returned (.int .u32 (m.vers.toNat : Int)) ∧ Gr w' b t R1 ∧ Rfr b W w') := fun W g => g.u32 m.vers.toNat m.vers.toNat_lt hs
  have H2 : Hid (∀ W, Gr W b t (lowL m.serv.toNat 8 ++ R2) → Calls Tryz.prog 77 #[.pointer (some ⟨b, 0, none⟩)] W fun e w' => e = .returned (.int .u64 (m.serv.toNat : Int)) ∧ Gr w' b t R2 ∧ Rfr b W w') := fun W g => g.u64 m.serv.toNat m.serv.toNat_lt hs
  have H3 : Hid (∀ W, Gr W b t (lowL (tm64 m.time) 8 ++ R3) → Calls Tryz.prog 77 #[.pointer (some ⟨b, 0, none⟩)] W fun e w' => e = .returned (.int .u64 ((tm64 m.time : Nat) : Int)) ∧ Gr w' b t R3 ∧ Rfr b W w') := fun W g => g.u64 _ (tm64_lt _) hs
  have H4 : Hid (∀ W, Gr W b t (m.dst.bytes ++ R4) → Calls Tryz.prog 111 #[.agg #[.pointer (some ⟨b, 0, none⟩), .string t]] W fun e w' => e = .returned (.agg m.dst.cells.toArray) ∧ Gr w' b t R4 ∧ Rfr b W w') := fun W g => by have := net_on m.dst g hs; rw [ed] at this; exact this
  have H5 : Hid (∀ W, Gr W b t (m.src.bytes ++ R5) → Calls Tryz.prog 111 #[.agg #[.pointer (some ⟨b, 0, none⟩), .string t]] W fun e w' => e = .returned (.agg m.src.cells.toArray) ∧ Gr w' b t R5 ∧ Rfr b W w') := fun W g => by have := net_on m.src g hs; rw [es] at this; exact this
  have H6 : Hid (∀ W, Gr W b t (lowL m.nonce.toNat 8 ++ R6) → Calls Tryz.prog 77 #[.pointer (some ⟨b, 0, none⟩)] W fun e w' => e = .returned (.int .u64 (m.nonce.toNat : Int)) ∧ Gr w' b t R6 ∧ Rfr b W w') := fun W g => g.u64 m.nonce.toNat m.nonce.toNat_lt hs
  have H7 : Hid (∀ W, Gr W b t (rawL m.agent ++ R7) → Calls Tryz.prog 112 #[.agg #[.pointer (some ⟨b, 0, none⟩), .string t], .int .u64 64] W fun e w' => e = .returned (.string m.agent) ∧ Gr w' b t R7 ∧ Rfr b W w') := fun W g => text_on m.agent 64 (by omega) ha g hs
  have H8 : Hid (∀ W, Gr W b t (lowL m.height.toNat 4 ++ R8) → Calls Tryz.prog 82 #[.pointer (some ⟨b, 0, none⟩)] W fun e w' => e = .returned (.int .u32 (m.height.toNat : Int)) ∧ Gr w' b t R8 ∧ Rfr b W w') := fun W g => g.u32 m.height.toNat m.height.toNat_lt hs
  have H9 : Hid (∀ W, Gr W b t (flagL m.relay ++ Y) → Calls Tryz.prog 89 #[.pointer (some ⟨b, 0, none⟩)] W fun e w' => e = .returned (.bool m.relay) ∧ Gr w' b t Y ∧ Rfr b W w') := fun W g => g.bool m.relay hs
  rw [hR1] at H2
  rw [hR2] at H3
  rw [hR3] at H4
  rw [hR4] at H5
  rw [hR5] at H6
  rw [hR6] at H7
  rw [hR7] at H8
  rw [hR8] at H9
  have e3 := tm64_back m.time ht
  have J0 := hide j0
  clear h ha ht hd hr hs r1 b1 j0 ed es hR1 hR2 hR3 hR4 hR5 hR6 hR7 hR8
  unfold pv
  go_enter Tryz.func76, Tryz.ntmps76
  go_upto_region 1 with fail
  generalize w.alloc (.cells #[.pointer (some ⟨b, 0, none⟩), .string t] 85) = A at *
  have P1 := hide (PX.out _ J0.out.fr)
  have c0 := PC.out _ P1.out
  go_upto_region 2 with (go_at_call 82; refine (H1.out _ J0.out.rd).mono ?_; rintro e W1 ⟨rfl, g1, f1⟩; have K1 := hide (J0.out.read g1 f1); have f3 := K1.out.frozen 1; have c3 := K1.out.cell 1 (by decide); clear g1 f1)
  have J1 := hide (K1.out.vers m.vers)
  clear J0 K1 H1 c0 P1 c3 f3
  generalize W1.setCell ⟨g5, 1, none⟩ (.int .u32 (m.vers.toNat : Int)) = V1 at *
  have P2 := hide (PX.out _ J1.out.fr)
  have c0 := PC.out _ P2.out
  go_upto_region 3 with (go_at_call 77; refine (H2.out _ J1.out.rd).mono ?_; rintro e W2 ⟨rfl, g1, f1⟩; have K2 := hide (J1.out.read g1 f1); have f3 := K2.out.frozen 2; have c3 := K2.out.cell 2 (by decide); clear g1 f1)
  have J2 := hide (K2.out.serv m.serv)
  clear J1 K2 H2 c0 P2 c3 f3
  generalize W2.setCell ⟨g5, 2, none⟩ (.int .u64 (m.serv.toNat : Int)) = V2 at *
  have P3 := hide (PX.out _ J2.out.fr)
  have c0 := PC.out _ P3.out
  go_upto_region 4 with (go_at_call 77; refine (H3.out _ J2.out.rd).mono ?_; rintro e W3 ⟨rfl, g1, f1⟩; have K3 := hide (J2.out.read g1 f1); have f3 := K3.out.frozen 4; have c3 := K3.out.cell 4 (by decide); clear g1 f1)
  have J3 := hide (K3.out.time m.time)
  clear J2 K3 H3 c0 P3 c3 f3 e3
  generalize W3.setCell ⟨g5, 4, none⟩ (.int .i64 m.time) = V3 at *
  have P4 := hide (PX.out _ J3.out.fr)
  have c0 := PC.out _ P4.out
  go_upto_region 5 with (first | (go_at_call 111; refine (H4.out _ J3.out.rd).mono ?_; rintro e W4 ⟨rfl, g1, f1⟩; have K4 := hide (J3.out.read g1 f1); clear g1 f1) | ((with_reducible refine at_list ?_); first | refine wpList_loadS APa _ rfl w.heap.size rfl #[.pointer (some ⟨b, 0, none⟩), .string t] rfl 85 P4.out (by rfl) ?_ | refine wpList_store_mid rfl 27 _ _ rfl g5 5 m.dst.cells.toArray rfl rfl (by rw [List.size_toArray, Nt.len]; exact K4.out.there 5 19 (by decide)) (by rw [List.size_toArray, Nt.len]; kernel_rfl) m.dst.all' ?_))
  have J4 := hide (K4.out.dst m.dst)
  clear J3 K4 H4 c0 P4
  change Code.wp _ _ _ _ (W4.setCells g5 5 m.dst.cells)
  generalize W4.setCells g5 5 m.dst.cells = V4 at *
  have P5 := hide (PX.out _ J4.out.fr)
  have c0 := PC.out _ P5.out
  go_upto_region 6 with (first | (go_at_call 111; refine (H5.out _ J4.out.rd).mono ?_; rintro e W5 ⟨rfl, g1, f1⟩; have K5 := hide (J4.out.read g1 f1); clear g1 f1) | ((with_reducible refine at_list ?_); first | refine wpList_loadS APa _ rfl w.heap.size rfl #[.pointer (some ⟨b, 0, none⟩), .string t] rfl 85 P5.out (by rfl) ?_ | refine wpList_store_mid rfl 27 _ _ rfl g5 24 m.src.cells.toArray rfl rfl (by rw [List.size_toArray, Nt.len]; exact K5.out.there 24 19 (by decide)) (by rw [List.size_toArray, Nt.len]; kernel_rfl) m.src.all' ?_))
  have J5 := hide (K5.out.src m.src)
  clear J4 K5 H5 c0 P5
  change Code.wp _ _ _ _ (W5.setCells g5 24 m.src.cells)
  generalize W5.setCells g5 24 m.src.cells = V5 at *
  have P6 := hide (PX.out _ J5.out.fr)
  have c0 := PC.out _ P6.out
  go_upto_region 7 with (go_at_call 77; refine (H6.out _ J5.out.rd).mono ?_; rintro e W6 ⟨rfl, g1, f1⟩; have K6 := hide (J5.out.read g1 f1); have f3 := K6.out.frozen 3; have c3 := K6.out.cell 3 (by decide); clear g1 f1)
  have J6 := hide (K6.out.nonce m.nonce)
  clear J5 K6 H6 c0 P6 c3 f3
  generalize W6.setCell ⟨g5, 3, none⟩ (.int .u64 (m.nonce.toNat : Int)) = V6 at *
  have P7 := hide (PX.out _ J6.out.fr)
  have c0 := PC.out _ P7.out
  go_upto_region 8 with (first | (go_at_call 112; refine (H7.out _ J6.out.rd).mono ?_; rintro e W7 ⟨rfl, g1, f1⟩; have K7 := hide (J6.out.read g1 f1); have f3 := K7.out.frozen 43; have c3 := K7.out.cell 43 (by decide); clear g1 f1) | ((with_reducible refine at_list ?_); first | refine wpList_loadS APa _ rfl w.heap.size rfl #[.pointer (some ⟨b, 0, none⟩), .string t] rfl 85 P7.out (by rfl) ?_))
  have J7 := hide (K7.out.agent m.agent)
  clear J6 K7 H7 c0 P7 c3 f3
  generalize W7.setCell ⟨g5, 43, none⟩ (.string m.agent) = V7 at *
  have P8 := hide (PX.out _ J7.out.fr)
  have c0 := PC.out _ P8.out
  go_upto_region 9 with (go_at_call 82; refine (H8.out _ J7.out.rd).mono ?_; rintro e W8 ⟨rfl, g1, f1⟩; have K8 := hide (J7.out.read g1 f1); have f3 := K8.out.frozen 44; have c3 := K8.out.cell 44 (by decide); clear g1 f1)
  have J8 := hide (K8.out.height m.height)
  clear J7 K8 H8 c0 P8 c3 f3
  generalize W8.setCell ⟨g5, 44, none⟩ (.int .u32 (m.height.toNat : Int)) = V8 at *
  have P9 := hide (PX.out _ J8.out.fr)
  have c0 := PC.out _ P9.out
  go_wp2_with (go_at_call 89; refine (H9.out _ J8.out.rd).mono ?_; rintro e W9 ⟨rfl, g1, f1⟩; have K9 := hide (J8.out.read g1 f1); have f3 := K9.out.frozen 45; have c3 := K9.out.cell 45 (by decide); clear g1 f1)
  have J9 := hide (K9.out.relay m.relay)
  exact bodyPost_end (results_none (by kernel_rfl) _ _ _) rfl ⟨rfl, Mx.over F0.out KL.out J9.out⟩
end
end Go.Proofs.YtkoidjaaojmcnaaGreat
