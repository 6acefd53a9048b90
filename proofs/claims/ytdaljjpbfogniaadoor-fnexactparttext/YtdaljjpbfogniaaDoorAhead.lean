/- rowAhead: at every row of Nodes and place. -/
import Derived.Test.YtdaljjpbfogniaaDoorAhA
import Derived.Test.YtdaljjpbfogniaaDoorAhR
import Derived.Test.YtdaljjpbfogniaaDoorAhM3
import Derived.Test.YtdaljjpbfogniaaDoorAhM5
import Derived.Test.YtdaljjpbfogniaaDoorAhM6
namespace Go.Proofs.YtdaljjpbfogniaaDoor
open Go.RowKit

set_option maxHeartbeats 400000 in
theorem nil_step (f : Nat) (st : List Nd) (ao : Option Addr) (cap : Nat) (p : Value) (w : World) (B : Nat) (hp : PlaceAt w p st) :
    Calls Tryd.prog 54 #[.slice ao ([] : List Nd).length cap, p] w fun e w' => Told w' B e (ahead talkI f st []) ∧ Below w.heap.size w w' := by
  obtain ⟨u, rfl⟩ := hp.shape
  clear hp
  go_enter Tryd.func54, Tryd.ntmps54
  go_wp2_with fail
  go_ret2
  exact told_none (Below.refl _ _) (by cases f <;> rfl)

theorem plan_calls (f : Nat) : PlanCalls f := by
  induction f with
  | zero =>
    intro st l v p w B hlen ok hB hv hp
    obtain ⟨ao, cap, rfl, hc1, hc2, hr⟩ := hv
    cases l with
    | nil => exact nil_step 0 st ao cap p w B hp
    | cons n l1 =>
      obtain ⟨b, o, rfl, hbB, hrow⟩ := hr (by simp)
      by_cases h1 : cap = 1
      · by_cases o0 : n.op = 0
        · exact end_step_a 0 st n l1 p w B b o cap hlen ok hB hbB hc1 hc2 h1 hrow hp o0
        · by_cases o1 : n.op = 1
          · exact var_step_a 0 st n l1 p w B b o cap hlen ok hB hbB hc1 hc2 h1 hrow hp o1
          · by_cases o2 : n.op = 2
            · obtain ⟨op, name, peer, many, sort⟩ := n
              simp only at o2
              subst o2
              exact rec_step_a 0 (fun g h => absurd h (by omega)) st name peer many sort l1 p w B b o cap hlen ok hB hbB hc1 hc2 h1 hrow hp
            · by_cases o3 : n.op = 3
              · obtain ⟨op, name, peer, many, sort⟩ := n
                simp only at o3
                subst o3
                exact msg3_step_a 0 (fun g h => absurd h (by omega)) st name peer many sort l1 p w B b o cap hlen ok hB hbB hc1 hc2 h1 hrow hp
              · by_cases o5 : n.op = 5
                · obtain ⟨op, name, peer, many, sort⟩ := n
                  simp only at o5
                  subst o5
                  exact msg5_step_a 0 (fun g h => absurd h (by omega)) st name peer many sort l1 p w B b o cap hlen ok hB hbB hc1 hc2 h1 hrow hp
                · by_cases o6 : n.op = 6
                  · obtain ⟨op, name, peer, many, sort⟩ := n
                    simp only at o6
                    subst o6
                    exact msg6_step_a 0 (fun g h => absurd h (by omega)) st name peer many sort l1 p w B b o cap hlen ok hB hbB hc1 hc2 h1 hrow hp
                  · exact oth_step_a 0 st n l1 p w B b o cap hlen ok hB hbB hc1 hc2 h1 hrow hp ⟨o0, o1, o2, o3, o5, o6⟩
      · by_cases o0 : n.op = 0
        · exact end_step_b 0 st n l1 p w B b o cap hlen ok hB hbB hc1 hc2 h1 hrow hp o0
        · by_cases o1 : n.op = 1
          · exact var_step_b 0 st n l1 p w B b o cap hlen ok hB hbB hc1 hc2 h1 hrow hp o1
          · by_cases o2 : n.op = 2
            · obtain ⟨op, name, peer, many, sort⟩ := n
              simp only at o2
              subst o2
              exact rec_step_b 0 (fun g h => absurd h (by omega)) st name peer many sort l1 p w B b o cap hlen ok hB hbB hc1 hc2 h1 hrow hp
            · by_cases o3 : n.op = 3
              · obtain ⟨op, name, peer, many, sort⟩ := n
                simp only at o3
                subst o3
                exact msg3_step_b 0 (fun g h => absurd h (by omega)) st name peer many sort l1 p w B b o cap hlen ok hB hbB hc1 hc2 h1 hrow hp
              · by_cases o5 : n.op = 5
                · obtain ⟨op, name, peer, many, sort⟩ := n
                  simp only at o5
                  subst o5
                  exact msg5_step_b 0 (fun g h => absurd h (by omega)) st name peer many sort l1 p w B b o cap hlen ok hB hbB hc1 hc2 h1 hrow hp
                · by_cases o6 : n.op = 6
                  · obtain ⟨op, name, peer, many, sort⟩ := n
                    simp only at o6
                    subst o6
                    exact msg6_step_b 0 (fun g h => absurd h (by omega)) st name peer many sort l1 p w B b o cap hlen ok hB hbB hc1 hc2 h1 hrow hp
                  · exact oth_step_b 0 st n l1 p w B b o cap hlen ok hB hbB hc1 hc2 h1 hrow hp ⟨o0, o1, o2, o3, o5, o6⟩
  | succ f ih =>
    intro st l v p w B hlen ok hB hv hp
    obtain ⟨ao, cap, rfl, hc1, hc2, hr⟩ := hv
    cases l with
    | nil => exact nil_step (f + 1) st ao cap p w B hp
    | cons n l1 =>
      obtain ⟨b, o, rfl, hbB, hrow⟩ := hr (by simp)
      by_cases h1 : cap = 1
      · by_cases o0 : n.op = 0
        · exact end_step_a (f + 1) st n l1 p w B b o cap hlen ok hB hbB hc1 hc2 h1 hrow hp o0
        · by_cases o1 : n.op = 1
          · exact var_step_a (f + 1) st n l1 p w B b o cap hlen ok hB hbB hc1 hc2 h1 hrow hp o1
          · by_cases o2 : n.op = 2
            · obtain ⟨op, name, peer, many, sort⟩ := n
              simp only at o2
              subst o2
              exact rec_step_a (f + 1) (fun g h => by cases h; exact ih) st name peer many sort l1 p w B b o cap hlen ok hB hbB hc1 hc2 h1 hrow hp
            · by_cases o3 : n.op = 3
              · obtain ⟨op, name, peer, many, sort⟩ := n
                simp only at o3
                subst o3
                exact msg3_step_a (f + 1) (fun g h => by cases h; exact ih) st name peer many sort l1 p w B b o cap hlen ok hB hbB hc1 hc2 h1 hrow hp
              · by_cases o5 : n.op = 5
                · obtain ⟨op, name, peer, many, sort⟩ := n
                  simp only at o5
                  subst o5
                  exact msg5_step_a (f + 1) (fun g h => by cases h; exact ih) st name peer many sort l1 p w B b o cap hlen ok hB hbB hc1 hc2 h1 hrow hp
                · by_cases o6 : n.op = 6
                  · obtain ⟨op, name, peer, many, sort⟩ := n
                    simp only at o6
                    subst o6
                    exact msg6_step_a (f + 1) (fun g h => by cases h; exact ih) st name peer many sort l1 p w B b o cap hlen ok hB hbB hc1 hc2 h1 hrow hp
                  · exact oth_step_a (f + 1) st n l1 p w B b o cap hlen ok hB hbB hc1 hc2 h1 hrow hp ⟨o0, o1, o2, o3, o5, o6⟩
      · by_cases o0 : n.op = 0
        · exact end_step_b (f + 1) st n l1 p w B b o cap hlen ok hB hbB hc1 hc2 h1 hrow hp o0
        · by_cases o1 : n.op = 1
          · exact var_step_b (f + 1) st n l1 p w B b o cap hlen ok hB hbB hc1 hc2 h1 hrow hp o1
          · by_cases o2 : n.op = 2
            · obtain ⟨op, name, peer, many, sort⟩ := n
              simp only at o2
              subst o2
              exact rec_step_b (f + 1) (fun g h => by cases h; exact ih) st name peer many sort l1 p w B b o cap hlen ok hB hbB hc1 hc2 h1 hrow hp
            · by_cases o3 : n.op = 3
              · obtain ⟨op, name, peer, many, sort⟩ := n
                simp only at o3
                subst o3
                exact msg3_step_b (f + 1) (fun g h => by cases h; exact ih) st name peer many sort l1 p w B b o cap hlen ok hB hbB hc1 hc2 h1 hrow hp
              · by_cases o5 : n.op = 5
                · obtain ⟨op, name, peer, many, sort⟩ := n
                  simp only at o5
                  subst o5
                  exact msg5_step_b (f + 1) (fun g h => by cases h; exact ih) st name peer many sort l1 p w B b o cap hlen ok hB hbB hc1 hc2 h1 hrow hp
                · by_cases o6 : n.op = 6
                  · obtain ⟨op, name, peer, many, sort⟩ := n
                    simp only at o6
                    subst o6
                    exact msg6_step_b (f + 1) (fun g h => by cases h; exact ih) st name peer many sort l1 p w B b o cap hlen ok hB hbB hc1 hc2 h1 hrow hp
                  · exact oth_step_b (f + 1) st n l1 p w B b o cap hlen ok hB hbB hc1 hc2 h1 hrow hp ⟨o0, o1, o2, o3, o5, o6⟩
end Go.Proofs.YtdaljjpbfogniaaDoor
