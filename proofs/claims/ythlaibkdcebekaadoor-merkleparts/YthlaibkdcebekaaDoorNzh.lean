/- MerkleParts' walk, its arguments in their order. -/
import Derived.Test.YthlaibkdcebekaaDoorNzf
namespace Go.Proofs.YthlaibkdcebekaaDoor
open Go.RowKit
open Go.Deep
theorem merkleParts_go {w : World} (v : Value) (L : List (List UInt8)) (hL : LH w v L) (vm : Value) (ms : List Bool) (hM : LB w vm ms) (hms : ms.length < 4611686018427387904) (c : Int) (vb vi : Value) (bs : List Bool) (is : List (List UInt8)) (hB : LB w vb bs) (hI : LH w vi is) (hbs : bs.length < 4611686018427387904) (his : is.length < 4398046511104) (hK : Kg w) :
    Calls Tryd.prog 3 #[v, vm, .agg #[.int .i64 c, vb, vi]] w fun e w' => e = .returned (.bool true) ∧ Below w.heap.size w w' :=
  merkleParts_walk v vm vb vi c L is ms bs w hL hM hB hI hms hbs his hK
end Go.Proofs.YthlaibkdcebekaaDoor
