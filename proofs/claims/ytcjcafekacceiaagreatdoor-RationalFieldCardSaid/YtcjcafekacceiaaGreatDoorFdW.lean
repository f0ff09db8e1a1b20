/- The walk of RationalField, both ways. -/
import Derived.Test.YtcjcafekacceiaaGreatDoorFdF
import Derived.Test.YtcjcafekacceiaaGreatDoorFdT
namespace Go.Proofs.YtcjcafekacceiaaGreatDoor
open Go.RowKit
theorem field_walk (x0 x1 x2 x3 y0 y1 y2 y3 z0 z1 : Int) (bx0 : (-9223372036854775808 ≤ x0 ∧ x0 ≤ 9223372036854775807)) (bx1 : (-9223372036854775808 ≤ x1 ∧ x1 ≤ 9223372036854775807)) (bx2 : (-9223372036854775808 ≤ x2 ∧ x2 ≤ 9223372036854775807)) (bx3 : (-9223372036854775808 ≤ x3 ∧ x3 ≤ 9223372036854775807)) (by0 : (-9223372036854775808 ≤ y0 ∧ y0 ≤ 9223372036854775807)) (by1 : (-9223372036854775808 ≤ y1 ∧ y1 ≤ 9223372036854775807)) (by2 : (-9223372036854775808 ≤ y2 ∧ y2 ≤ 9223372036854775807)) (by3 : (-9223372036854775808 ≤ y3 ∧ y3 ≤ 9223372036854775807)) (bz0 : (-9223372036854775808 ≤ z0 ∧ z0 ≤ 9223372036854775807)) (bz1 : (-9223372036854775808 ≤ z1 ∧ z1 ≤ 9223372036854775807)) (lg : Bool) (w : World) (ht : Tb w) :
    Calls Tryz.prog 6 #[.agg #[.int .i64 x0, .int .i64 x1, .int .i64 x2, .int .i64 x3], .agg #[.int .i64 y0, .int .i64 y1, .int .i64 y2, .int .i64 y3], .agg #[.int .i64 z0, .int .i64 z1], .bool lg] w (BOut w true) := by
  cases lg with
  | false => exact field_walk_f x0 x1 x2 x3 y0 y1 y2 y3 z0 z1 bx0 bx1 bx2 bx3 by0 by1 by2 by3 bz0 bz1 w ht
  | true => exact field_walk_t x0 x1 x2 x3 y0 y1 y2 y3 z0 z1 bx0 bx1 bx2 bx3 by0 by1 by2 by3 bz0 bz1 w ht
end Go.Proofs.YtcjcafekacceiaaGreatDoor
