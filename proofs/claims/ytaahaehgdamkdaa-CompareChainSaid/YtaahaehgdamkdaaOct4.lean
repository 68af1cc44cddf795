/- octet's readers, by their contracts. Conditions: the reach of a string. -/
import Derived.Test.YtaahaehgdamkdaaBase
namespace Go.Proofs.Ytaahaehgdamkdaa
open Go Go.RowKit

/-- a reader -/
abbrev rd (s : ByteArray) (p e : Int) : Value := .agg #[.string s, .int .i64 p, .int .i64 e]

end Go.Proofs.Ytaahaehgdamkdaa
