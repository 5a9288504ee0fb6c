/- What the document's At answers: the piece that begins at a place. -/
import Derived.Test.YtjccoiephdopkaaDoorQQForm
import Derived.Test.YtjccoiephdopkaaDoorQQWk
namespace Go.Proofs.YtjccoiephdopkaaDoor.SQ
set_option linter.unusedVariables false
set_option linter.unusedSimpArgs false
open Go Go.RowKit
set_option maxRecDepth 100000

theorem infoP : (Tryd.prog.info? 120).map (fun i => (i.zero, i.size, i.bytes)) = some (some (.agg #[.int .i64 0, .int .i64 0, .int .i32 0, .bool false]), 4, 24) := by kernel_rfl

end Go.Proofs.YtjccoiephdopkaaDoor.SQ
