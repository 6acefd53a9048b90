import Derived.Test.YtlcafjckaahmaaaGreatQB08
import Derived.Test.YtlcafjckaahmaaaGreatQB01
import Derived.Deep.DrawnRows
namespace Go.Proofs.YtlcafjckaahmaaaGreat
open Go.RowKit
attribute [local go_sem ↓] Go.wp_at_zero Go.wp_at_succ

end Go.Proofs.YtlcafjckaahmaaaGreat
