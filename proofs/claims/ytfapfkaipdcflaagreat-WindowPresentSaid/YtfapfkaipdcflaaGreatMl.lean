/-
  The reference's Set and Cut.
-/
import Derived.Test.YtfapfkaipdcflaaGreatMa
namespace Go.Proofs.YtfapfkaipdcflaaGreat.K
open Go.RowKit Go.Lib

set_option maxHeartbeats 1000000 in
theorem rset_any (u v x y z t time : Int) (w : World) : Calls Tryz.prog 48 #[.agg #[.int .i64 u, .int .i64 v, .int .i64 x, .int .i64 y, .int .i64 z, .int .i64 t], .int .i64 time] w fun e w' => e = .returned (.agg #[.int .i64 1, .int .i64 time, .int .i64 u, .int .i64 v, .int .i64 x, .int .i64 y, .int .i64 z]) ∧ Below w.heap.size w w' := by
  go_enter Tryz.func48, Tryz.ntmps48
  go_wp2_with fail
  obtain ⟨n0, hblk, n2, hbel⟩ := new_two w (.cells #[.int .i64 u, .int .i64 v, .int .i64 x, .int .i64 y, .int .i64 z, .int .i64 t] 62) (.cells #[.int .i64 1, .int .i64 time, .int .i64 u, .int .i64 v, .int .i64 x, .int .i64 y, .int .i64 z] 57)
  exact ret_event (p := 4) Tryz.results48 rfl (w.heap.size + 1) rfl hblk ⟨rfl, hbel⟩
set_option maxHeartbeats 1000000 in
theorem rcut_any (u v x y z t time : Int) (w : World) : Calls Tryz.prog 39 #[.agg #[.int .i64 u, .int .i64 v, .int .i64 x, .int .i64 y, .int .i64 z, .int .i64 t], .int .i64 time] w fun e w' => e = .returned (.agg #[.int .i64 2, .int .i64 time, .int .i64 u, .int .i64 v, .int .i64 0, .int .i64 0, .int .i64 0]) ∧ Below w.heap.size w w' := by
  go_enter Tryz.func39, Tryz.ntmps39
  go_wp2_with fail
  obtain ⟨n0, hblk, n2, hbel⟩ := new_two w (.cells #[.int .i64 u, .int .i64 v, .int .i64 x, .int .i64 y, .int .i64 z, .int .i64 t] 62) (.cells #[.int .i64 2, .int .i64 time, .int .i64 u, .int .i64 v, .int .i64 0, .int .i64 0, .int .i64 0] 57)
  exact ret_event (p := 4) Tryz.results39 rfl (w.heap.size + 1) rfl hblk ⟨rfl, hbel⟩
end Go.Proofs.YtfapfkaipdcflaaGreat.K
