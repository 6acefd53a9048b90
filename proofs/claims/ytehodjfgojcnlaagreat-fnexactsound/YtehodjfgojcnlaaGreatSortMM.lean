/- Both ways of putting the roles in order give the same row. -/
import Derived.Test.YtehodjfgojcnlaaGreatQSound35
import Derived.Test.YtehodjfgojcnlaaGreatShelfSM
import Derived.Sort.OwnSorted
namespace Go.Proofs.YtehodjfgojcnlaaGreat
open Go.RowKit Go.Sort

def bytesOf (t : ByteArray) : List UInt8 := t.toList
theorem enc_bytes (t : ByteArray) : encStr (bytesOf t) = .string t := by
  rw [bytesOf, Go.ByteArray.toList_eq]
theorem map_enc (ls : List ByteArray) : (ls.map bytesOf).map encStr = ls.map Value.string := by
  rw [List.map_map]
  apply List.map_congr_left
  intro t _
  exact enc_bytes t
theorem sort_roles {part : Bool} {ns : List Nd} (h : ∀ n ∈ ns, nodeB (talkS part) n = true) : ((rolesI ns).map bytesOf).mergeSort (fun x y => decide (x ≤ y)) = (rolesS ns).map bytesOf := by
  obtain ⟨hs, hp⟩ := roles_perm h
  have h1 := List.pairwise_mergeSort (le := fun (x y : List UInt8) => decide (x ≤ y)) (fun a b c h1 h2 => by simp at *; exact List.le_trans h1 h2) (fun a b => by simp; exact List.le_total a b) ((rolesI ns).map bytesOf)
  have h2 : ((rolesS ns).map bytesOf).Pairwise (fun x y => decide (x ≤ y) = true) := by
    rw [List.pairwise_map]
    refine hs.imp ?_
    intro a b hab
    rw [less_iff] at hab
    simp
    exact List.le_of_lt hab
  refine List.Perm.eq_of_pairwise ?_ h1 h2 ((List.mergeSort_perm _ _).trans (hp.map _))
  intro a b _ _ h3 h4
  simp at h3 h4
  exact List.le_antisymm h3 h4

theorem sort_own (ls ts : List ByteArray) (v : Value) (w : World) (base : Nat) (hown : w.ownsRow base 9 1 v ls.length (ls.map Value.string)) (hl : ls.length ≤ 1000) (hsort : (ls.map bytesOf).mergeSort (fun x y => decide (x ≤ y)) = ts.map bytesOf) :
    Calls Tryz.prog 23 #[v] w fun e w' => e = .returned (.tuple #[]) ∧ w'.ownsRow base 9 1 v ts.length (ts.map Value.string) ∧ w.grownBy w' v.ownBlock := by
  have hlen : ts.length = ls.length := by
    have := congrArg List.length hsort
    rw [List.length_mergeSort, List.length_map, List.length_map] at this
    exact this.symm
  obtain ⟨hxl, hv⟩ := hown
  rcases hv with ⟨rfl, h0⟩ | ⟨g, cap, cur, rfl, hg, hh, hn, hcap, hsz, htake⟩
  · have e : ls = [] := List.length_eq_zero_iff.1 h0
    subst e
    have e2 : ts = [] := List.length_eq_zero_iff.1 hlen
    subst e2
    refine (Tryz.slices_Sort_string_none none 0 w).mono ?_
    rintro e w' ⟨rfl, rfl⟩
    exact ⟨rfl, World.ownsRow_nil _ _ _ _, ⟨rfl, rfl, rfl, Nat.le_refl _, fun _ _ _ => rfl⟩⟩
  · have hlt : g < w.heap.size := (Array.getElem?_eq_some_iff.1 hh).1
    have hs := Tryz.slices_Sort_string g 0 cap (ls.map bytesOf) w (holds_of_block hh (by rw [List.length_map, map_enc]; simpa using htake)) hlt (by rw [List.length_map]; omega)
    rw [List.length_map] at hs
    refine hs.mono ?_
    rintro e w' ⟨rfl, n, os, rfl⟩
    refine ⟨rfl, ?_, grownBy_sorted _⟩
    rw [hsort]
    have ho := ownsRow_sorted (n := n) (os := os) (base := base) (ss := ls.map bytesOf) (ts := ts.map bytesOf) (by rw [List.length_map, List.length_map]; exact hlen) hg hh (by rw [List.length_map]; exact hn) hcap hsz
    rw [map_enc, List.length_map] at ho
    rw [hlen]
    exact ho
end Go.Proofs.YtehodjfgojcnlaaGreat
