/- The bytes of what is on its way: the mathematics, and the specification's NetBytes. -/
import Derived.Test.YtpbaljoindljnaaBSeal
import Derived.Test.YtpbaljoindljnaaJoinM
import Derived.Test.YtpbaljoindljnaaNetS
namespace Go.Proofs.Ytpbaljoindljnaa
open Go.RowKit

def msgP (m : RMsg) : ByteArray := joinS [textS m.frm, textS m.to, textS m.label, putS m.sort]
def msgW (m : RMsg) : ByteArray := textS (sealS (msgP m))
def partsN (l : List RMsg) (k : Nat) : List ByteArray := putS (l.length : Int) :: (l.take k).map msgW
def bytesN (l : List RMsg) : ByteArray := joinS (partsN l l.length)
def netS (l : List RMsg) : ByteArray := if netB l then bytesN l else ByteArray.empty
theorem join_four (a b c d : ByteArray) : joinS [a, b, c, d] = a ++ b ++ c ++ d := by
  rw [joinS_cons, joinS_cons, joinS_cons, joinS_one, ByteArray.append_assoc, ByteArray.append_assoc]
theorem partsN_succ {l : List RMsg} {k : Nat} (h : k < l.length) : partsN l (k + 1) = partsN l k ++ [msgW l[k]] := by
  rw [partsN, partsN, List.take_succ_eq_append_getElem h, List.map_append, List.cons_append]
  rfl
theorem partsN_len (l : List RMsg) (k : Nat) (h : k ≤ l.length) : (partsN l k).length = 1 + k := by
  rw [partsN, List.length_cons, List.length_map, List.length_take]
  omega
theorem msgP_size {m : RMsg} (h : msgB m = true) : (msgP m).size ≤ 100 := by
  obtain ⟨h1, h2, h3, -⟩ := msg_name h
  rw [msgP, joinS_size]
  have a := textS_size _ (name_short h1)
  have b := textS_size _ (name_short h2)
  have c := textS_size _ (name_short h3)
  have d := putS_size m.sort
  simp
  omega
theorem seal_size {s : ByteArray} (h : s.size ≤ 7996) : (sealS s).size = s.size + 4 := by
  rw [sealS_yes h, ByteArray.size_append, fourS_size]
theorem textS_more {s : ByteArray} (h : s.size ≤ 8000) : (textS s).size ≤ s.size + 10 := by
  rw [textS_yes h, join_two, ByteArray.size_append]
  have := putS_size (s.size : Int)
  omega
theorem msgW_size {m : RMsg} (h : msgB m = true) : (msgW m).size ≤ 120 := by
  have h1 := msgP_size h
  have h2 := seal_size (s := msgP m) (by omega)
  have h3 := textS_more (s := sealS (msgP m)) (by omega)
  rw [msgW]
  omega
theorem partsN_small {l : List RMsg} (h : netB l = true) (k : Nat) : ∀ x ∈ partsN l k, x.size ≤ 120 := by
  intro x hx
  simp only [partsN, List.mem_cons, List.mem_map] at hx
  rcases hx with rfl | ⟨m, hm, rfl⟩
  · exact Nat.le_trans (putS_size _) (by omega)
  · exact msgW_size (net_right h m (List.mem_of_mem_take hm)).1
theorem partsN_tot {l : List RMsg} (h : netB l = true) {k : Nat} (hk : k ≤ l.length) : ((partsN l k).map ByteArray.size).sum ≤ 4440 := by
  have h1 := sum_le_mul (partsN_small h k)
  rw [partsN_len l k hk] at h1
  have := net_len h
  omega
theorem sp_put {s : ByteArray} {n : Int} (hs : putS n = s) (w : World) (h : -9223372036854775808 ≤ n ∧ n ≤ 9223372036854775807) :
    Calls Try.prog 30 #[.int .i64 n] w fun e w' => e = .returned (.string s) ∧ Below w.heap.size w w' := by subst hs; exact spec_put n w h.1 h.2
theorem sp_text {s t : ByteArray} (hs : textS t = s) (w : World) (h : t.size ≤ maxLen) :
    Calls Try.prog 31 #[.string t] w fun e w' => e = .returned (.string s) ∧ Below w.heap.size w w' := by subst hs; exact spec_text t w h
theorem sp_seal {s t : ByteArray} (hs : sealS t = s) (w : World) (h : t.size ≤ maxLen) :
    Calls Try.prog 32 #[.string t] w fun e w' => e = .returned (.string s) ∧ Below w.heap.size w w' := by subst hs; exact spec_seal t w h
theorem ip_put {s : ByteArray} {n : Int} (hs : putS n = s) (w : World) (h : -9223372036854775808 ≤ n ∧ n ≤ 9223372036854775807) :
    Calls Try.prog 33 #[.int .i64 n] w fun e w' => e = .returned (.string s) ∧ Below w.heap.size w w' := by subst hs; exact impl_put n w h.1 h.2
theorem ip_text {s t : ByteArray} (hs : textS t = s) (w : World) (h : t.size ≤ maxLen) :
    Calls Try.prog 34 #[.string t] w fun e w' => e = .returned (.string s) ∧ Below w.heap.size w w' := by subst hs; exact impl_text t w h
theorem ip_seal {s t : ByteArray} (hs : sealS t = s) (w : World) (h : t.size ≤ maxLen) :
    Calls Try.prog 55 #[.string t] w fun e w' => e = .returned (.string s) ∧ Below w.heap.size w w' := by subst hs; exact impl_seal t w h
end Go.Proofs.Ytpbaljoindljnaa
