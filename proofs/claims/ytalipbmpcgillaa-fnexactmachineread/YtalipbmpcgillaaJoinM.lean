/- Texts put together: how long they are. -/
import Derived.Test.YtalipbmpcgillaaBText
namespace Go.Proofs.Ytalipbmpcgillaa
open Go.RowKit

theorem joinS_app (a b : List ByteArray) : joinS (a ++ b) = joinS a ++ joinS b := by
  apply ByteArray.ext
  simp only [joinS, flatTo, List.take_length, List.flatMap_append]
  simp
theorem joinS_one (a : ByteArray) : joinS [a] = a := join_one a
theorem joinS_cons (a : ByteArray) (l : List ByteArray) : joinS (a :: l) = a ++ joinS l := by
  rw [show a :: l = [a] ++ l from rfl, joinS_app, joinS_one]
theorem joinS_nil : joinS [] = ByteArray.empty := by
  apply ByteArray.ext
  simp [joinS, flatTo]
theorem joinS_size (l : List ByteArray) : (joinS l).size = (l.map ByteArray.size).sum := by
  induction l with
  | nil => rw [joinS_nil]; rfl
  | cons a l ih => rw [joinS_cons, ByteArray.size_append, ih]; simp
theorem textS_size (s : ByteArray) (h : s.size ≤ 20) : (textS s).size ≤ 30 := by
  rw [textS_yes (by omega), join_two, ByteArray.size_append]
  have := putS_size (s.size : Int)
  omega
theorem sum_le_mul {l : List ByteArray} {c : Nat} (h : ∀ x ∈ l, x.size ≤ c) : (l.map ByteArray.size).sum ≤ l.length * c := by
  induction l with
  | nil => simp
  | cons a l ih =>
    have h1 := h a (by simp)
    have h2 := ih (fun x hx => h x (by simp [hx]))
    simp [Nat.succ_mul]
    omega
end Go.Proofs.Ytalipbmpcgillaa
