/- l02Text, a step: the Node at hand is of this kind. -/
import Derived.Test.YtdaljjpbfogniaaDoorSText0
import Derived.Test.YtdaljjpbfogniaaDoorSText3
import Derived.Test.YtdaljjpbfogniaaDoorSText5
import Derived.Test.YtdaljjpbfogniaaDoorSText6
namespace Go.Proofs.YtdaljjpbfogniaaDoor
open Go.RowKit

theorem stext_calls (part : Bool) (f : Nat) : STextCalls part f := by
  induction f with
  | zero =>
    intro st all r pos a v w hlen hst ha hpos h40 hr hx
    subst ha
    have hpl : pos < all.length := by
      rcases Nat.lt_or_ge pos all.length with h | h
      · exact h
      · rw [List.drop_of_length_le h] at hr; cases hr
    cases hn : all[pos] with
    | mk op name peer many sort =>
      by_cases o0 : op = 0
      · subst o0; exact stext0 part 0 st all r pos v w hst hpl h40 many sort name peer hn hr hx
      · by_cases o1 : op = 1
        · subst o1; exact stext1 part 0 st all r pos v w hst hpl h40 many sort name peer hn hr hx
        · rw [drop_cons hpl, hn, ahead_t0 o0 o1] at hr; cases hr
  | succ f ih =>
    intro st all r pos a v w hlen hst ha hpos h40 hr hx
    subst ha
    have hpl : pos < all.length := by
      rcases Nat.lt_or_ge pos all.length with h | h
      · exact h
      · rw [List.drop_of_length_le h] at hr; cases hr
    cases hn : all[pos] with
    | mk op name peer many sort =>
      by_cases o0 : op = 0
      · subst o0; exact stext0 part (f + 1) st all r pos v w hst hpl h40 many sort name peer hn hr hx
      · by_cases o1 : op = 1
        · subst o1; exact stext1 part (f + 1) st all r pos v w hst hpl h40 many sort name peer hn hr hx
        · by_cases o2 : op = 2
          · subst o2; exact stext2 part f ih st all r pos v w hlen hst hpl h40 many sort name peer hn hr hx
          · by_cases o3 : op = 3
            · subst o3; exact stext3 part f ih st all r pos v w hlen hst hpl h40 many sort name peer hn hr hx
            · by_cases o5 : op = 5
              · subst o5; exact stext5 part f ih st all r pos v w hlen hst hpl h40 many sort name peer hn hr hx
              · by_cases o6 : op = 6
                · subst o6; exact stext6 part f ih st all r pos v w hlen hst hpl h40 many sort name peer hn hr hx
                · exfalso
                  rw [drop_cons hpl, hn, ahead_x o0 o1 o2 (by cases part <;> simp [talkS, o3, o5, o6])] at hr
                  cases hr
end Go.Proofs.YtdaljjpbfogniaaDoor
