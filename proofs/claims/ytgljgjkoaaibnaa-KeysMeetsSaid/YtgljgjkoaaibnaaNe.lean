/-
  The walk of KeysMeets.
-/
import Derived.Test.YtgljgjkoaaibnaaNb
import Derived.Test.YtgljgjkoaaibnaaNc
import Derived.Test.YtgljgjkoaaibnaaNd
namespace Go.Proofs.Ytgljgjkoaaibnaa.KK
open Go.ChangeShapes Go.WideShapes Go.ChangeAt Go.RowKit Go.Proofs


theorem KeysMeets_any (lo hi : ByteArray) (b : Bool) (lo2 hi2 : ByteArray) (b2 : Bool) (k : ByteArray) (w : World) (hlo : lo.size ≤ 9223372036854775807) (hhi : hi.size ≤ 9223372036854775807) (hlo2 : lo2.size ≤ 9223372036854775807) (hhi2 : hi2.size ≤ 9223372036854775807) (hk : k.size ≤ 9223372036854775807) :
    Calls Try.prog 9 #[.agg #[.string lo, .string hi, .bool b], .agg #[.string lo2, .string hi2, .bool b2], .string k] w fun e w' => e = .returned (.bool true) ∧ Below w.heap.size w w' := by
  by_cases n0 : 200 < lo.size
  · exact KeysMeets_long0 lo hi b lo2 hi2 b2 k w hlo hhi hlo2 hhi2 hk n0
  by_cases n1 : 200 < hi.size
  · exact KeysMeets_long1 lo hi b lo2 hi2 b2 k w hlo hhi hlo2 hhi2 hk n0 n1
  by_cases n2 : 200 < lo2.size
  · exact KeysMeets_long2 lo hi b lo2 hi2 b2 k w hlo hhi hlo2 hhi2 hk n0 n1 n2
  by_cases n3 : 200 < hi2.size
  · exact KeysMeets_long3 lo hi b lo2 hi2 b2 k w hlo hhi hlo2 hhi2 hk n0 n1 n2 n3
  by_cases n4 : 200 < k.size
  · exact KeysMeets_long4 lo hi b lo2 hi2 b2 k w hlo hhi hlo2 hhi2 hk n0 n1 n2 n3 n4
  by_cases hc : chkR lo hi b = 0
  · by_cases hd : chkR lo2 hi2 b2 = 0
    · cases hz : hasB lo hi b lo
      · by_cases hk32 : k.size ≤ 32
        · by_cases hle : lo.size ≤ k.size
          · exact KeysMeets_ft1 lo hi b lo2 hi2 b2 k w hlo hhi hlo2 hhi2 hk n0 n1 n2 n3 n4 hc hd hk32 (empty_none hz) hz hle
          · exact KeysMeets_ft0 lo hi b lo2 hi2 b2 k w hlo hhi hlo2 hhi2 hk n0 n1 n2 n3 n4 hc hd hk32 (empty_none hz) hz hle
        · exact KeysMeets_lt lo hi b lo2 hi2 b2 k w hlo hhi hlo2 hhi2 hk n0 n1 n2 n3 n4 hc hd hk32 hz
      · by_cases hk32 : k.size ≤ 32
        · cases hx : hasB lo hi b k <;> by_cases hle : lo.size ≤ k.size
          · exact KeysMeets_ff1 lo hi b lo2 hi2 b2 k w hlo hhi hlo2 hhi2 hk n0 n1 n2 n3 n4 hc hd hk32 hx hz hle
          · exact KeysMeets_ff0 lo hi b lo2 hi2 b2 k w hlo hhi hlo2 hhi2 hk n0 n1 n2 n3 n4 hc hd hk32 hx hz hle
          · exact KeysMeets_tt1 lo hi b lo2 hi2 b2 k w hlo hhi hlo2 hhi2 hk n0 n1 n2 n3 n4 hc hd hk32 hx hz hle
          · exact KeysMeets_tt0 lo hi b lo2 hi2 b2 k w hlo hhi hlo2 hhi2 hk n0 n1 n2 n3 n4 hc hd hk32 hx hz hle
        · exact KeysMeets_lf lo hi b lo2 hi2 b2 k w hlo hhi hlo2 hhi2 hk n0 n1 n2 n3 n4 hc hd hk32 hz
    · exact KeysMeets_err lo hi b lo2 hi2 b2 k w hlo hhi hlo2 hhi2 hk n0 n1 n2 n3 n4 (by unfold mErr; rw [hc]; simpa using hd)
  · exact KeysMeets_err lo hi b lo2 hi2 b2 k w hlo hhi hlo2 hhi2 hk n0 n1 n2 n3 n4 (by unfold mErr; rw [if_pos hc]; exact hc)
end Go.Proofs.Ytgljgjkoaaibnaa.KK
