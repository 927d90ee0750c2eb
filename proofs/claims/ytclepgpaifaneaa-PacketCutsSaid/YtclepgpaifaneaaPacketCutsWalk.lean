/- carracklaw10.PacketCuts walked. No condition. -/
import Derived.WalkSpells
import Derived.Test.YtclepgpaifaneaaPkParse
import Derived.Test.YtclepgpaifaneaaPkCut
import Derived.Test.YtclepgpaifaneaaPkOpen
import Derived.Test.YtclepgpaifaneaaPacketCutsA
import Derived.Test.YtclepgpaifaneaaPacketCutsLow0
import Derived.Test.YtclepgpaifaneaaPacketCutsHigh0
import Derived.Test.YtclepgpaifaneaaPacketCutsMid0
import Derived.Test.YtclepgpaifaneaaPacketCutsLow1
import Derived.Test.YtclepgpaifaneaaPacketCutsHigh1
import Derived.Test.YtclepgpaifaneaaPacketCutsMid1
namespace Go.Proofs.Ytclepgpaifaneaa.packetCuts
open Go.RowKit
set_option linter.unusedVariables false
theorem packetCuts_walk (v : Value) (cut : Int) (more : ByteArray) {W : World} (hd : ∃ x : PkV, v = x.val ∧ PkFits x) (wc : (Lit.int .i64 cut).wf = true) (hm : more.size ≤ maxLen) :
    Calls Try.prog 5 #[v, .int .i64 cut, .string more] W fun x w' => x = .returned (.bool true) ∧ Below W.heap.size W w' := by
  obtain ⟨⟨f, q, t, d⟩, rfl, hf⟩ := hd
  by_cases h1 : 300 < d.size
  · exact early1 f q t d more cut W h1
  by_cases h2 : 300 < more.size
  · exact early2 f q t d more cut W h1 h2
  by_cases hok : PkOk ⟨f, q, t, d⟩
  · by_cases h0 : cut < 0
    · by_cases hm0 : more.size = 0
      · exact low0 f q t d more cut W h1 h2 hok hf.q hf.t h0 hm0
      · exact low1 f q t d more cut W h1 h2 hok hf.q hf.t h0 (by omega)
    · obtain ⟨n, rfl⟩ := Int.eq_ofNat_of_zero_le (show 0 ≤ cut by omega)
      by_cases h3 : n < 19 + d.size
      · exact short f q t d more n W h1 h2 hok hf.q hf.t h3
      · by_cases h4 : n = 19 + d.size
        · by_cases hm0 : more.size = 0
          · exact mid0 f q t d more n W h1 h2 hok hf.q hf.t h4 hm0
          · exact mid1 f q t d more n W h1 h2 hok hf.q hf.t h4 (by omega)
        · by_cases hm0 : more.size = 0
          · exact high0 f q t d more n W h1 h2 hok hf.q hf.t (by omega) hm0
          · exact high1 f q t d more n W h1 h2 hok hf.q hf.t (by omega) (by omega)
  · exact bad f q t d more cut W h1 h2 hok
end Go.Proofs.Ytclepgpaifaneaa.packetCuts
