/- telltalelaw06.Own: types of the program's out of the document's. Conditions: small types. -/
import Derived.Test.YtggafdimbddflaaSMem3
import Derived.BigQuiet
import Derived.Deep.RegionLaw
namespace Go.Proofs.Ytggafdimbddflaa
open Go Go.RowKit

theorem infoF : (Try.prog.info? 70).map (fun i => (i.zero, i.size, i.bytes)) = some (some (.agg #[.string ⟨#[]⟩, .int .u8 0]), 2, 24) := by kernel_rfl
theorem fcells_step {F : List FZ} {j : Nat} (h : j < F.length) : fcells (F.take (j + 1)) = fcells (F.take j) ++ [.string F[j].n, .int .u8 (F[j].k : Int)] := by
  rw [List.take_succ_eq_append_getElem h, fcells_append]
  rfl

end Go.Proofs.Ytggafdimbddflaa
