/- The specification's end and l02Right: at every row of Nodes. -/
import Derived.Test.YtdaljjpbfogniaaDoorEnd0
import Derived.Test.YtdaljjpbfogniaaDoorEnd1
import Derived.Test.YtdaljjpbfogniaaDoorEnd2
import Derived.Test.YtdaljjpbfogniaaDoorEndt
import Derived.Test.YtdaljjpbfogniaaDoorEndn
import Derived.Test.YtdaljjpbfogniaaDoorEndm
namespace Go.Proofs.YtdaljjpbfogniaaDoor
open Go.RowKit

set_option maxHeartbeats 400000 in
theorem end_past (part : Bool) (f : Nat) (st all : List Nd) (pos bx : Nat) (a d op : Int) (rv : Value) (w : World) (ha : a = pos) (hpl : ¬ pos < all.length) (hx : LookAt w bx part all) (hr : TextsAt w rv (recsOf st)) :
    Calls Tryd.prog 51 #[.pointer (some ⟨bx, 0, none⟩), .int .i64 a, .int .i64 d, rv, .int .i64 op] w fun e w' => e = .returned (.int .i64 (endPos all (ahead (talkS part) f st (all.drop pos)))) ∧ Below w.heap.size w w' := by
  obtain ⟨rao, rcap, rfl, rc1, rc2, -⟩ := hr
  obtain ⟨xao, xcap, x0, x1, x2, x3, x4⟩ := hx
  subst ha
  have HE := hide (show endPos all (ahead (talkS part) f st (all.drop pos)) = -1 by rw [List.drop_of_length_le (by omega)]; cases f <;> rfl)
  have hp2 : decide ((all.length : Int) ≤ (pos : Int)) = true := decide_eq_true (by omega)
  clear x4
  go_enter Tryd.func51, Tryd.ntmps51
  go_wp2_with fail
  go_ret
  exact ⟨ret_int HE.out, Below.refl _ _⟩

theorem end_calls (part : Bool) (f : Nat) : EndCalls part f := by
  induction f with
  | zero =>
    intro st all pos bx a d op rv w hlen hst ok ha hpos hd hop hx hr hnil
    by_cases hpl : pos < all.length
    · cases hn : all[pos] with
      | mk op0 name peer many sort =>
        by_cases o0 : op0 = 0
        · subst o0; exact end_0 part 0 st all pos bx a d op rv w hlen hst ok ha hpl hd hop hx hr hnil name peer many sort hn
        · by_cases o1 : op0 = 1
          · subst o1; exact end_1 part 0 st all pos bx a d op rv w hlen hst ok ha hpl hd hop hx hr hnil name peer many sort hn
          · by_cases o2 : op0 = 2
            · subst o2; exact end_2a part 0 st all pos bx a d op rv w hlen hst ok ha hpl hd hop hx hr hnil name peer many sort (.inl rfl) hn
            · exact end_t part 0 (fun g h => absurd h (by omega)) st all pos bx a d op rv w hlen hst ok ha hpl hd hop hx hr hnil name peer op0 many sort ⟨o0, o1, o2⟩ hn
    · exact end_past part 0 st all pos bx a d op rv w ha hpl hx hr
  | succ f ih =>
    intro st all pos bx a d op rv w hlen hst ok ha hpos hd hop hx hr hnil
    by_cases hpl : pos < all.length
    · cases hn : all[pos] with
      | mk op0 name peer many sort =>
        by_cases o0 : op0 = 0
        · subst o0; exact end_0 part (f + 1) st all pos bx a d op rv w hlen hst ok ha hpl hd hop hx hr hnil name peer many sort hn
        · by_cases o1 : op0 = 1
          · subst o1; exact end_1 part (f + 1) st all pos bx a d op rv w hlen hst ok ha hpl hd hop hx hr hnil name peer many sort hn
          · by_cases o2 : op0 = 2
            · subst o2
              cases hy : (recB ⟨2, name, peer, many, sort⟩ && !withinB st name)
              · exact end_2a part (f + 1) st all pos bx a d op rv w hlen hst ok ha hpl hd hop hx hr hnil name peer many sort (.inr hy) hn
              · by_cases hrn : recsOf st = []
                · exact end_2n part f st all pos bx a d op rv w hlen hst ok ha hpl hd hop hx hr hnil name peer many sort ih hy hrn hn
                · exact end_2m part f st all pos bx a d op rv w hlen hst ok ha hpl hd hop hx hr hnil name peer many sort ih hy hrn hn
            · exact end_t part (f + 1) (fun g h => by cases h; exact ih) st all pos bx a d op rv w hlen hst ok ha hpl hd hop hx hr hnil name peer op0 many sort ⟨o0, o1, o2⟩ hn
    · exact end_past part (f + 1) st all pos bx a d op rv w ha hpl hx hr
end Go.Proofs.YtdaljjpbfogniaaDoor
