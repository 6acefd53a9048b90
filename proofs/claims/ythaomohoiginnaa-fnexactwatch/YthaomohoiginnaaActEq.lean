/- Acts compared as wholes. -/
import Derived.Test.YthaomohoiginnaaStepM
namespace Go.Proofs.Ythaomohoiginnaa
open Go.RowKit

theorem act_equal (a b : RAct) (W : World) : (Op.equalIn 10000 58 (.agg #[.int .i64 a.kind, .string a.peer, .string a.label, .int .i64 a.sort]) (.agg #[.int .i64 b.kind, .string b.peer, .string b.label, .int .i64 b.sort])).run Try.prog W = .ok (actEq a b) W := by
  by_cases h1 : a.kind = b.kind
  · by_cases h2 : a.peer.toList = b.peer.toList
    · by_cases h3 : a.label.toList = b.label.toList
      · by_cases h4 : a.sort = b.sort
        all_goals
          go_simp
          simp [actEq, h1, h2, h3, h4]
      · go_simp
        simp [actEq, h1, h2, h3]
    · go_simp
      simp [actEq, h1, h2]
  · go_simp
    simp [actEq, h1]
end Go.Proofs.Ythaomohoiginnaa
