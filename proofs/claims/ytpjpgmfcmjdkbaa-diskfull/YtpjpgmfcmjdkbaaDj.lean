/- A disk: its cells, its files, its loose changes; and its small calls. -/
import Derived.Test.YtpjpgmfcmjdkbaaDi
namespace Go.Proofs.Ytpjpgmfcmjdkbaa
open Go.RowKit
open Go.Deep
open Go.Lib
/-- A fall that a plan lays. -/
structure Fl where
  pos : Int
  keep : Int
  torn : Int
  sync : Bool
/-- What a disk is. -/
structure St where
  now : FS
  sure : FS
  loose : List Ch
  made : Nat
  plan : List Fl
  dead : Bool
/-- Files within their bounds. -/
structure Bd (f : FS) : Prop where
  n : f.n ≤ 64
  len : ∀ k, (f.at k).length ≤ 16777216
/-- A change that a disk makes. -/
structure okD (f : FS) (c : Ch) : Prop where
  kind : c.kind ≤ 3
  name : c.name.size ≤ 32
  dst : c.dst.size ≤ 32
  pos : c.kind ≤ 1 → c.pos ≤ (f.at (ls c.name)).length
  len : c.s.size ≤ 16777216
  bd : Bd f
  bd' : Bd (doC f c)
theorem okD.ok {f : FS} {c : Ch} (h : okD f c) : okC f c :=
  ⟨h.kind, by have := h.name; unfold maxLen; omega, by have := h.dst; unfold maxLen; omega, h.pos, by have := h.bd.len (ls c.name); have := h.len; omega, by have := h.bd.n; unfold maxLen; omega⟩
/-- Changes that a disk made, one behind the other. -/
def okM : FS → List Ch → Prop
  | f, [] => Bd f
  | f, c :: r => okD f c ∧ okM (doC f c) r
theorem okM.okL : ∀ {l : List Ch} {f : FS}, okM f l → okL f l
  | [], _, _ => trivial
  | _ :: _, _, h => ⟨h.1.ok, okM.okL h.2⟩
theorem okM.bd : ∀ {l : List Ch} {f : FS}, okM f l → Bd f
  | [], _, h => h
  | _ :: _, _, h => h.1.bd
theorem okM.take : ∀ {l : List Ch} {f : FS} (k : Nat), okM f l → okM f (l.take k)
  | [], _, k, h => by simpa using h
  | _ :: _, _, 0, h => h.1.bd
  | _ :: _, _, k + 1, h => ⟨h.1, okM.take k h.2⟩
theorem okM.end_ : ∀ {l : List Ch} {f : FS}, okM f l → Bd (doL f l)
  | [], _, h => h
  | _ :: r, _, h => okM.end_ (l := r) h.2
theorem okM.at_ : ∀ {l : List Ch} {f : FS} {k : Nat} {c : Ch}, okM f l → l[k]? = some c → okD (doL f (l.take k)) c
  | [], _, _, _, _, h => by simp at h
  | x :: r, f, 0, c, hl, h => by
    simp at h
    subst h
    exact hl.1
  | x :: r, f, k + 1, c, hl, h => by
    simp at h
    exact okM.at_ (l := r) (f := doC f x) hl.2 h
theorem okM.snoc : ∀ {l : List Ch} {f : FS} {c : Ch}, okM f l → okD (doL f l) c → okM f (l ++ [c])
  | [], _, _, _, hc => ⟨hc, hc.bd'⟩
  | _ :: r, _, _, h, hc => ⟨h.1, okM.snoc (l := r) h.2 hc⟩
/-- What a disk holds by itself. -/
structure Vd (x : St) : Prop where
  ok : okM x.sure x.loose
  now : x.now = doL x.sure x.loose
  many : x.loose.length ≤ 10000
  made : x.made ≤ 1000000
/-- The cells of changes. -/
def chs (l : List Ch) : List Value := l.flatMap fun c => (chv c).toList
theorem chs_len (l : List Ch) : (chs l).length = l.length * 5 := by
  induction l with
  | nil => rfl
  | cons c r ih =>
    show ((chv c).toList ++ chs r).length = _
    rw [List.length_append, ih, chv_len, List.length_cons]
    omega
def flv (f : Fl) : List Value := [.int .i64 f.pos, .int .i64 f.keep, .int .i64 f.torn, .bool f.sync]
def fls (l : List Fl) : List Value := l.flatMap flv
/-- The cells of a disk. -/
def dc (mn ms : Option Nat) (vo vp : Value) (made : Nat) (dead : Bool) (i : Nat) : Value :=
  if i = 0 then .map mn else if i = 1 then .map ms else if i = 2 then vo else if i = 3 then .int .i64 (made : Int) else if i = 4 then vp else .bool dead
/-- A disk at block gd, by its parts. -/
structure DP (w : World) (gd : Nat) (x : St) (T S1 S2 : Nat → Prop) (mn ms : Option Nat) (vo vp : Value) : Prop where
  row : w.rowIs gd 65 6 (dc mn ms vo vp x.made x.dead)
  now : FsO w mn x.now S1
  sure : FsO w ms x.sure S2
  loose : w.ownsRow 0 90 5 vo x.loose.length (chs x.loose)
  plan : w.ownsRow 0 93 4 vp x.plan.length (fls x.plan)
  tg : T gd
  t1 : ∀ g, S1 g → T g
  t2 : ∀ g, S2 g → T g
  tl : ∀ g, vo.ownBlock = some g → T g
  tp : ∀ g, vp.ownBlock = some g → T g
  apart : ∀ g, S1 g → ¬ S2 g
  d1 : ¬ S1 gd
  d2 : ¬ S2 gd
  l1 : ∀ g, vo.ownBlock = some g → ¬ S1 g ∧ ¬ S2 g ∧ g ≠ gd
  p1 : ∀ g, vp.ownBlock = some g → ¬ S1 g ∧ ¬ S2 g ∧ g ≠ gd
  lt : ∀ g, T g → g < w.heap.size
/-- A disk at block gd, its memory within T. -/
def DK (w : World) (gd : Nat) (x : St) (T : Nat → Prop) : Prop := ∃ S1 S2 mn ms vo vp, DP w gd x T S1 S2 mn ms vo vp
section
variable {w w' : World} {gd : Nat} {x : St} {T T' S S1 S2 : Nat → Prop} {mn ms : Option Nat} {vo vp : Value}
theorem FsO.frame {m : Option Nat} {f : FS} (h : FsO w m f S) (hs : w.heap.size ≤ w'.heap.size) (e : ∀ g, S g → w'.heap[g]? = w.heap[g]?) : FsO w' m f S := by
  rcases h with h | ⟨b, F, hm, h⟩
  · exact .inl h
  · exact .inr ⟨b, F, hm, h.frame hs e⟩
theorem rowsOf {e : TypeId} {size n : Nat} {v : Value} {xs : List Value} {base : Nat} (h : w.ownsRow base e size v n xs) (e' : ∀ g, v.ownBlock = some g → w'.heap[g]? = w.heap[g]?) : w'.ownsRow base e size v n xs := by
  refine ⟨h.1, ?_⟩
  rcases h.2 with hn | ⟨g, cap, cur, rfl, hb, hg, r⟩
  · exact .inl hn
  · exact .inr ⟨g, cap, cur, rfl, hb, (e' g rfl).trans hg, r⟩
theorem DP.frame (h : DP w gd x T S1 S2 mn ms vo vp) (hs : w.heap.size ≤ w'.heap.size) (e : ∀ g, T g → w'.heap[g]? = w.heap[g]?) : DP w' gd x T S1 S2 mn ms vo vp :=
  ⟨World.rowIs.of_block h.row (e _ h.tg), h.now.frame hs fun g hg => e g (h.t1 g hg), h.sure.frame hs fun g hg => e g (h.t2 g hg), rowsOf h.loose fun g hg => e g (h.tl g hg), rowsOf h.plan fun g hg => e g (h.tp g hg), h.tg, h.t1, h.t2, h.tl, h.tp, h.apart, h.d1, h.d2, h.l1, h.p1, fun g hg => Nat.lt_of_lt_of_le (h.lt g hg) hs⟩
theorem DP.below (h : DP w gd x T S1 S2 mn ms vo vp) (hb : Below w.heap.size w w') : DP w' gd x T S1 S2 mn ms vo vp :=
  h.frame hb.size fun g hg => hb.block g (h.lt g hg)
theorem DP.wide (h : DP w gd x T S1 S2 mn ms vo vp) (hs : ∀ g, T g → T' g) (hl : ∀ g, T' g → g < w.heap.size) : DP w gd x T' S1 S2 mn ms vo vp :=
  ⟨h.row, h.now, h.sure, h.loose, h.plan, hs _ h.tg, fun g hg => hs g (h.t1 g hg), fun g hg => hs g (h.t2 g hg), fun g hg => hs g (h.tl g hg), fun g hg => hs g (h.tp g hg), h.apart, h.d1, h.d2, h.l1, h.p1, hl⟩
theorem DK.below (h : DK w gd x T) (hb : Below w.heap.size w w') : DK w' gd x T := by
  obtain ⟨S1, S2, mn, ms, vo, vp, h⟩ := h
  exact ⟨S1, S2, mn, ms, vo, vp, h.below hb⟩
theorem DK.wide (h : DK w gd x T) (hs : ∀ g, T g → T' g) (hl : ∀ g, T' g → g < w.heap.size) : DK w gd x T' := by
  obtain ⟨S1, S2, mn, ms, vo, vp, h⟩ := h
  exact ⟨S1, S2, mn, ms, vo, vp, h.wide hs hl⟩
theorem DK.grow (h : DK w' gd x T) (hl : ∀ g, T g → g < w'.heap.size) : DK w' gd x (grow T w w') := h.wide (fun g hg => .inl hg) (fun g hg => by
  rcases hg with hg | ⟨_, hg⟩
  · exact hl g hg
  · exact hg)
theorem DK.lt (h : DK w gd x T) : ∀ g, T g → g < w.heap.size := by
  obtain ⟨S1, S2, mn, ms, vo, vp, h⟩ := h
  exact h.lt
theorem DP.cell (h : DP w gd x T S1 S2 mn ms vo vp) (i : Nat) (hi : i < 6) : w.cell? ⟨gd, i, none⟩ = some (dc mn ms vo vp x.made x.dead i) := World.rowIs.cell h.row hi
/-- What stands under a name. -/
theorem FsO.look {m : Option Nat} {f : FS} (h : FsO w m f S) {s : ByteArray} (hs : s.size ≤ maxLen) : ∃ v, (Instr.lookup 62 (.map m) (.string s) false).run Try.prog w = .ok v w ∧ (Instr.lookup 62 (.map m) (.string s) true).run Try.prog w = .ok (.tuple #[v, .bool (f.get (ls s)).isSome]) w ∧ Own w v (f.at (ls s)) := by
  rcases h with ⟨rfl, rfl, rfl⟩ | ⟨b, F, rfl, h⟩
  · exact ⟨.slice none 0 0, Maps.look_nil false lawS Try.underlying62 (zeroSl w) (keyS s hs), Maps.look_nil true lawS Try.underlying62 (zeroSl w) (keyS s hs), Own.nil w⟩
  · refine ⟨vl F (ls s), h.mp.look hs, ?_, h.ownv _⟩
    have hd := h.dom (ls s)
    cases hF : F (ls s) with
    | none =>
      rw [hF] at hd
      rw [← hd, h.mp.look_no hs hF]
      unfold vl
      rw [hF]
      rfl
    | some v =>
      rw [hF] at hd
      rw [← hd, h.mp.look_ok hs hF]
      unfold vl
      rw [hF]
      rfl
theorem FsO.len {m : Option Nat} {f : FS} (h : FsO w m f S) (ty : TypeId) : (Builtin.len_ #[62] ty #[.map m]).run Try.prog w = .ok (.int .i64 (f.n : Int)) w := by
  rcases h with ⟨rfl, rfl, rfl⟩ | ⟨b, F, rfl, h⟩
  · exact Maps.len_nil Try.underlying62 ty
  · exact h.mp.len ty
end
/-! ### Small calls -/
theorem eqp (a : Option Addr) (w : World) : (binOp .eql 23 (.pointer a) (.pointer none)).run Try.prog w = .ok (.bool a.isNone) w := by
  cases a <;> kernel_rfl
section
set_option maxRecDepth 10000
set_option maxHeartbeats 1000000
theorem dead_nil (w : World) : Calls Try.prog 26 #[.pointer none] w fun e w' => e = .returned (.bool true) ∧ w' = w := by
  go_enter Try.func26, Try.ntmps26
  go_wp2
  go_ret
  exact ⟨rfl, rfl⟩
theorem dead_cell (gd : Nat) (b : Bool) (w : World) (h : w.cell? ⟨gd, 5, none⟩ = some (.bool b)) : Calls Try.prog 26 #[.pointer (some ⟨gd, 0, none⟩)] w fun e w' => e = .returned (.bool b) ∧ w' = w := by
  go_enter Try.func26, Try.ntmps26
  go_wp2
  go_ret
  exact ⟨rfl, rfl⟩
theorem new_any (w : World) : Calls Try.prog 7 #[] w fun e w' => e = .returned (.pointer (some ⟨w.heap.size, 0, none⟩)) ∧ DK w' w.heap.size ⟨FS.none, FS.none, [], 0, [], false⟩ (fun g => g = w.heap.size) ∧ Below w.heap.size w w' := by
  go_enter Try.func7, Try.ntmps7
  go_wp2
  go_ret
  refine ⟨rfl, ⟨fun _ => False, fun _ => False, none, none, .slice none 0 0, .slice none 0 0, row_of (n := 6) rfl (heap_alloc_last w _) (fun i hi => ?_), .inl ⟨rfl, rfl, rfl⟩, .inl ⟨rfl, rfl, rfl⟩, World.ownsRow_nil _ _ _ _, World.ownsRow_nil _ _ _ _, rfl, fun _ h => h.elim, fun _ h => h.elim, fun _ h => (by cases h), fun _ h => (by cases h), fun _ h => h.elim, fun h => h, fun h => h, fun _ h => (by cases h), fun _ h => (by cases h), fun g hg => by simp [hg]⟩, (Below.refl _ _).alloc (Nat.le_refl _) _⟩
  have : i = 0 ∨ i = 1 ∨ i = 2 ∨ i = 3 ∨ i = 4 ∨ i = 5 := by omega
  rcases this with rfl | rfl | rfl | rfl | rfl | rfl <;> rfl
end
end Go.Proofs.Ytpjpgmfcmjdkbaa
