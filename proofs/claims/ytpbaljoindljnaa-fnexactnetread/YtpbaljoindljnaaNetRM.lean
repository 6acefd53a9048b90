/- A net read from bytes: what is read, by both sides: pure. -/
import Derived.Test.YtpbaljoindljnaaRdI
import Derived.Test.YtpbaljoindljnaaBUnB
import Derived.Test.YtpbaljoindljnaaNetBM
namespace Go.Proofs.Ytpbaljoindljnaa
open Go.RowKit

def noRMsg : RMsg := ⟨ByteArray.empty, ByteArray.empty, ByteArray.empty, 0⟩
theorem text_back2 {u s : ByteArray} {pre post : List UInt8} (h : u.size ≤ 8000) (hs : bL s = pre ++ (bL (textS u) ++ post)) (hz : s.size ≤ 8000) : getT s (pre.length : Int) = (u, (pre.length : Int) + ((bL (textS u)).length : Int), 0) := by
  unfold bL at hs ⊢
  rw [text_data h] at hs ⊢
  rw [List.append_assoc] at hs
  have hn := num_back (n := (u.size : Int)) (by omega) (by omega) hs hz
  have hsz : s.size = pre.length + (putL (foldN (u.size : Int))).length + u.size + post.length := by
    rw [Lib.size_eq, hs, List.length_append, List.length_append, List.length_append, ← Lib.size_eq]; omega
  rw [getT, hn]
  simp only
  rw [if_neg (by simp), if_neg (by omega), if_neg (by omega)]
  refine Prod.ext ?_ (Prod.ext ?_ rfl)
  · apply ba_ext
    rw [Lib.extract_data, hs]
    rw [show ((pre.length : Int) + ((putL (foldN (u.size : Int))).length : Int)).toNat = pre.length + (putL (foldN (u.size : Int))).length from by omega, Int.toNat_natCast, ← List.append_assoc, List.drop_left' (by simp), Nat.add_sub_cancel_left, List.take_left' (by rw [← Lib.size_eq])]
  · simp only [List.length_append]
    rw [← Lib.size_eq]; omega
theorem wordI_ok {t : ByteArray} {a c : Int} (h : (wordI t a c).2.2 = 0) : c = 0 ∧ gT t a = some ((wordI t a c).1, (wordI t a c).2.1) := by
  unfold wordI at h ⊢
  by_cases hc : c = 0
  · rw [if_pos hc] at h ⊢
    exact ⟨hc, by unfold gT; rw [if_pos h]⟩
  · rw [if_neg hc] at h; exact absurd h hc
theorem numI_ok {t : ByteArray} {a c : Int} (h : (numI t a c).2.2 = 0) : c = 0 ∧ gN t a = some ((numI t a c).1, (numI t a c).2.1) := by
  unfold numI at h ⊢
  by_cases hc : c = 0
  · rw [if_pos hc] at h ⊢
    exact ⟨hc, by unfold gN; rw [if_pos h]⟩
  · rw [if_neg hc] at h; exact absurd h hc
def rd4 (t : ByteArray) : RMsg × Int × Int :=
  (⟨(wordI t 0 0).1, (wordI t (wordI t 0 0).2.1 (wordI t 0 0).2.2).1,
    (wordI t (wordI t (wordI t 0 0).2.1 (wordI t 0 0).2.2).2.1 (wordI t (wordI t 0 0).2.1 (wordI t 0 0).2.2).2.2).1,
    (numI t (wordI t (wordI t (wordI t 0 0).2.1 (wordI t 0 0).2.2).2.1 (wordI t (wordI t 0 0).2.1 (wordI t 0 0).2.2).2.2).2.1 (wordI t (wordI t (wordI t 0 0).2.1 (wordI t 0 0).2.2).2.1 (wordI t (wordI t 0 0).2.1 (wordI t 0 0).2.2).2.2).2.2).1⟩,
    (numI t (wordI t (wordI t (wordI t 0 0).2.1 (wordI t 0 0).2.2).2.1 (wordI t (wordI t 0 0).2.1 (wordI t 0 0).2.2).2.2).2.1 (wordI t (wordI t (wordI t 0 0).2.1 (wordI t 0 0).2.2).2.1 (wordI t (wordI t 0 0).2.1 (wordI t 0 0).2.2).2.2).2.2).2)
theorem rd4_of {t : ByteArray} {f o l : ByteArray × Int × Int} {n : Int × Int × Int} (hf : wordI t 0 0 = f) (ho : wordI t f.2.1 f.2.2 = o) (hl : wordI t o.2.1 o.2.2 = l) (hn : numI t l.2.1 l.2.2 = n) : rd4 t = (⟨f.1, o.1, l.1, n.1⟩, n.2) := by
  subst hf; subst ho; subst hl; subst hn; rfl
theorem msgP_bL (m : RMsg) : bL (msgP m) = bL (textS m.frm) ++ (bL (textS m.to) ++ (bL (textS m.label) ++ bL (putS m.sort))) := by
  rw [msgP, bL_join]; simp [List.flatMap_cons]
theorem rd4_goes {t : ByteArray} (h : (rd4 t).2.2 = 0) : Goes t 0 (rd4 t).2.1 (bL (msgP (rd4 t).1)) := by
  obtain ⟨f, hf⟩ : ∃ f, wordI t 0 0 = f := ⟨_, rfl⟩
  obtain ⟨o, ho⟩ : ∃ o, wordI t f.2.1 f.2.2 = o := ⟨_, rfl⟩
  obtain ⟨l, hl⟩ : ∃ l, wordI t o.2.1 o.2.2 = l := ⟨_, rfl⟩
  obtain ⟨n, hn⟩ : ∃ n, numI t l.2.1 l.2.2 = n := ⟨_, rfl⟩
  have e := rd4_of hf ho hl hn
  rw [e] at h ⊢
  simp only at h ⊢
  obtain ⟨c3, g3⟩ := numI_ok (t := t) (a := l.2.1) (c := l.2.2) (by rw [hn]; exact h)
  obtain ⟨c2, g2⟩ := wordI_ok (t := t) (a := o.2.1) (c := o.2.2) (by rw [hl]; exact c3)
  obtain ⟨c1, g1⟩ := wordI_ok (t := t) (a := f.2.1) (c := f.2.2) (by rw [ho]; exact c2)
  obtain ⟨-, g0⟩ := wordI_ok (t := t) (a := 0) (c := 0) (by rw [hf]; exact c1)
  rw [hn] at g3; rw [hl] at g2; rw [ho] at g1; rw [hf] at g0
  rw [msgP_bL]
  exact (gT_goes g0).1.trans ((gT_goes g1).1.trans ((gT_goes g2).1.trans (gN_goes g3).1))
theorem rd4_back {m : RMsg} (h1 : m.frm.size ≤ 8000) (h2 : m.to.size ≤ 8000) (h3 : m.label.size ≤ 8000) (h4 : -9223372036854775808 ≤ m.sort ∧ m.sort ≤ 9223372036854775807) (hz : (msgP m).size ≤ 8000) : rd4 (msgP m) = (m, ((msgP m).size : Int), 0) := by
  have e := msgP_bL m
  have w0 := text_back2 (pre := []) h1 (by simpa using e) hz
  have w1 := text_back2 (pre := bL (textS m.frm)) h2 e hz
  have w2 := text_back2 (pre := bL (textS m.frm) ++ bL (textS m.to)) (post := bL (putS m.sort)) h3 (by rw [e]; simp) hz
  have w3 := num_back (n := m.sort) h4.1 h4.2 (s := msgP m) (pre := bL (textS m.frm) ++ bL (textS m.to) ++ bL (textS m.label)) (post := []) (by rw [← putS_data]; show bL (msgP m) = _ ++ (bL (putS m.sort) ++ []); rw [e]; simp) hz
  simp only [List.length_append, List.length_nil] at w0 w1 w2 w3
  have hsz : ((msgP m).size : Int) = (bL (textS m.frm)).length + (bL (textS m.to)).length + (bL (textS m.label)).length + (putL (foldN m.sort)).length := by
    rw [Lib.size_eq, show (msgP m).data.toList = bL (msgP m) from rfl, e]
    simp only [List.length_append]
    rw [show bL (putS m.sort) = putL (foldN m.sort) from rfl]; omega
  rw [rd4_of (t := msgP m) (f := (m.frm, ((bL (textS m.frm)).length : Int), 0)) (o := (m.to, ((bL (textS m.frm)).length : Int) + (bL (textS m.to)).length, 0)) (l := (m.label, ((bL (textS m.frm)).length : Int) + (bL (textS m.to)).length + (bL (textS m.label)).length, 0)) (n := (m.sort, ((msgP m).size : Int), 0))
    (by rw [wordI, if_pos rfl]; simpa using w0) (by rw [wordI, if_pos rfl]; simpa using w1) (by rw [wordI, if_pos rfl]; simpa using w2) (by rw [numI, if_pos rfl, hsz]; simpa using w3)]
end Go.Proofs.Ytpbaljoindljnaa
