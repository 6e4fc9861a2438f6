/- The law ShaKeys: its walk. -/
import Derived.Test.YtempdhoccilhdaaDoorUa
namespace Go.Proofs.YtempdhoccilhdaaDoor
open Go.RowKit
open Go.Deep
section
set_option maxRecDepth 10000
set_option maxHeartbeats 1000000
theorem shaKeys_walk (k : ByteArray) (hk : k.size < 2305843009213692000) (s : ByteArray) (hs : s.size < 2305843009213692000) (w : World) (hK : Kg w) : Calls Tryd.prog 7 #[.string k, .string s] w fun e w' => e = .returned (.bool true) ∧ Below w.heap.size w w' := by
  have HA := hide fun W hW => awake_any W hW
  have H33 := hide fun W hW => key_any k s hk hs W hW
  have H34 := hide fun W => rkey_any k s hk hs W
  have e1 := hide fun W => eqb 25 32 Tryd.underlying25 (hmac k.data.toList s.data.toList) (hmac_len _ _) W
  generalize hmac k.data.toList s.data.toList = M at *
  have HK := hide hK
  clear hK
  go_enter Tryd.func7, Tryd.ntmps7
  go_wp2_with (first | (go_at_call 9; refine (HA.out _ HK.out).mono ?_; rintro e w1 ⟨rfl, b1⟩; have B1 := hide b1; clear b1) | (go_at_call 33; refine (H33.out _ (HK.out.next B1.out)).mono ?_; rintro e w2 ⟨rfl, b2⟩; have B2 := hide (below_next B1.out b2); clear b2) | (go_at_call 34; refine (H34.out _).mono ?_; rintro e w3 ⟨rfl, b3⟩; have B3 := hide (below_next B2.out b3); clear b3) | refine wpList_eql 25 _ _ _ rfl (hc M) (hc M) rfl rfl rfl eqg25 true e1.out ?_)
  go_ret
  exact ⟨rfl, B3.out⟩
end
end Go.Proofs.YtempdhoccilhdaaDoor
