/- Marks of a text: cut byte by byte; the text of a right row has just its marks. -/
import Derived.Test.YtolbcoginmaboaaDoorQB23
namespace Go.Proofs.YtolbcoginmaboaaDoor
open Go.RowKit

/-- a byte of a word -/
def inW (c : UInt8) : Bool := (decide (97 ≤ c.toNat) && decide (c.toNat ≤ 122)) || (decide (48 ≤ c.toNat) && decide (c.toNat ≤ 57)) || c.toNat == 95
def addW (all : List ByteArray) (w : List UInt8) : List ByteArray := if w.isEmpty then all else all ++ [ba w]
def mkS (s : List ByteArray × List UInt8) (c : UInt8) : List ByteArray × List UInt8 := if inW c then (s.1, s.2 ++ [c]) else (addW s.1 s.2 ++ [ba [c]], [])
def mkE (s : List ByteArray × List UInt8) : List ByteArray := addW s.1 s.2
/-- the marks of a text of ASCII bytes -/
def mkF (t : List UInt8) : List ByteArray := mkE (t.foldl mkS ([], []))
def flatT (ts : List ByteArray) : List UInt8 := ts.flatMap ByteArray.toList
theorem toL_app (a b : ByteArray) : (a ++ b).toList = a.toList ++ b.toList := by
  rw [Go.ByteArray.toList_eq, Go.ByteArray.toList_eq, Go.ByteArray.toList_eq, ByteArray.data_append, Array.toList_append]
theorem cat_flat (ts : List ByteArray) : (catT ts).toList = flatT ts := by
  induction ts with
  | nil => rw [cat_nil, Go.ByteArray.toList_eq]; rfl
  | cons a ts ih => rw [cat_cons, toL_app, ih]; rfl
theorem ba_toL (x : ByteArray) : ba x.toList = x := tl_inj (ba_list _)
theorem add_nil (all : List ByteArray) : addW all [] = all := rfl
theorem add_some {all : List ByteArray} {w : List UInt8} (h : w ≠ []) : addW all w = all ++ [ba w] := by
  unfold addW
  cases w with
  | nil => exact absurd rfl h
  | cons a w => rfl
theorem add_flat (all : List ByteArray) (w : List UInt8) : flatT (addW all w) = flatT all ++ w := by
  by_cases h : w = []
  · subst h; rw [add_nil, List.append_nil]
  · rw [add_some h, flatT, List.flatMap_append]
    simp [flatT, ba_list]
theorem mk_flat : ∀ (t : List UInt8) (s : List ByteArray × List UInt8), flatT (mkE (t.foldl mkS s)) = flatT s.1 ++ s.2 ++ t := by
  intro t
  induction t with
  | nil => intro s; rw [List.foldl_nil, mkE, add_flat, List.append_nil]
  | cons c t ih =>
    intro s
    rw [List.foldl_cons, ih, mkS]
    split
    · simp
    · dsimp only
      rw [flatT, List.flatMap_append]
      have := add_flat s.1 s.2
      unfold flatT at this
      rw [this]
      simp [flatT, ba_list]
/-- a text is its marks, put together -/
theorem mk_back (t : ByteArray) : catT (mkF t.toList) = t := by
  apply tl_inj
  rw [cat_flat, mkF, mk_flat]
  rfl
def WordT (x : ByteArray) : Prop := x.toList ≠ [] ∧ ∀ c ∈ x.toList, inW c = true
def SignT (x : ByteArray) : Prop := ∃ c : UInt8, x = ba [c] ∧ inW c = false ∧ c.toNat < 128
/-- no two words beside each other; was: a word stands ahead -/
def SepB : Bool → List ByteArray → Prop
  | _, [] => True
  | was, x :: r => (SignT x ∧ SepB false r) ∨ (was = false ∧ WordT x ∧ SepB true r)
theorem sep_mono {r : List ByteArray} (h : SepB true r) : SepB false r := by
  cases r with
  | nil => trivial
  | cons x r =>
    rcases h with h | ⟨h, _⟩
    · exact .inl h
    · cases h
theorem word_fold : ∀ (w : List UInt8) (s : List ByteArray × List UInt8), (∀ c ∈ w, inW c = true) → w.foldl mkS s = (s.1, s.2 ++ w) := by
  intro w
  induction w with
  | nil => intro s _; rw [List.foldl_nil, List.append_nil]
  | cons c w ih =>
    intro s h
    rw [List.foldl_cons, mkS, if_pos (h c List.mem_cons_self), ih _ (fun x hx => h x (List.mem_cons_of_mem _ hx))]
    simp
theorem sep_marks : ∀ (ts : List ByteArray) (was : Bool) (all : List ByteArray) (w : List UInt8), SepB was ts → (was = false → w = []) → mkE ((flatT ts).foldl mkS (all, w)) = addW all w ++ ts := by
  intro ts
  induction ts with
  | nil => intro was all w _ _; rw [flatT, List.flatMap_nil, List.foldl_nil, List.append_nil]; rfl
  | cons x ts ih =>
    intro was all w h hw
    rw [flatT, List.flatMap_cons, List.foldl_append]
    rcases h with ⟨⟨c, hx, hc, -⟩, hr⟩ | ⟨hf, hx, hr⟩
    · rw [hx, ba_list, List.foldl_cons, List.foldl_nil, mkS, if_neg (by rw [hc]; simp)]
      rw [show List.flatMap ByteArray.toList ts = flatT ts from rfl, ih false _ _ hr (fun _ => rfl), add_nil]
      simp
    · rw [hw hf, word_fold _ _ hx.2, List.nil_append, show List.flatMap ByteArray.toList ts = flatT ts from rfl, ih true _ _ hr (fun h => by cases h), add_some hx.1, ba_toL, add_nil]
      simp
theorem sep_ascii : ∀ (ts : List ByteArray) (was : Bool), SepB was ts → ∀ x ∈ ts, ∀ c ∈ x.toList, c.toNat < 128 := by
  intro ts
  induction ts with
  | nil => intro _ _ x hx; cases hx
  | cons y ts ih =>
    intro was h x hx c hc
    rcases h with ⟨⟨d, hy, hd, hlt⟩, hr⟩ | ⟨-, hy, hr⟩
    · rcases List.mem_cons.1 hx with rfl | hx
      · rw [hy, ba_list] at hc
        simp at hc
        rw [hc]; exact hlt
      · exact ih _ hr x hx c hc
    · rcases List.mem_cons.1 hx with rfl | hx
      · have := hy.2 c hc
        simp only [inW, Bool.or_eq_true, Bool.and_eq_true, decide_eq_true_eq, beq_iff_eq] at this
        omega
      · exact ih _ hr x hx c hc
/-! ### the marks of a right row -/
theorem word_T {x : ByteArray} (h : wordB x = true) : WordT x := by
  refine ⟨wordT_ne h, fun c hc => ?_⟩
  simp only [wordB, nameB, Bool.and_eq_true, List.all_eq_true, List.mem_range] at h
  obtain ⟨j, hj, e⟩ := List.getElem_of_mem hc
  have hs : j < x.size := by
    have : x.toList.length = x.size := by rw [Go.ByteArray.toList_eq]; rfl
    omega
  have h1 := h.1.2 j hs
  have hb : byteAt x j = (c.toNat : Int) := by
    unfold byteAt
    rw [dif_pos hs]
    have : x[j] = c := by
      rw [← e]
      simp only [Go.ByteArray.toList_eq]
      rfl
    rw [this]
  rw [hb] at h1
  simp only [okC, Bool.or_eq_true, Bool.and_eq_true, decide_eq_true_eq, beq_iff_eq] at h1
  simp only [inW, Bool.or_eq_true, Bool.and_eq_true, decide_eq_true_eq, beq_iff_eq]
  omega
theorem sign_T (c : UInt8) (h : inW c = false) (h2 : c.toNat < 128) : SignT (ba [c]) := ⟨c, rfl, h, h2⟩
theorem lit_T {t : List UInt8} (h : t ≠ []) (h2 : ∀ c ∈ t, inW c = true) : WordT (ba t) := ⟨by rw [ba_list]; exact h, by rw [ba_list]; exact h2⟩
theorem sort_T (s : Int) : WordT (sortT s) := by
  unfold sortT
  split
  · exact lit_T (by simp) (by decide)
  · split <;> exact lit_T (by simp) (by decide)
/-- it may stand where a word may, and a sign or nothing behind it -/
def SepOf (ts : List ByteArray) : Prop := ∀ ms, SepB true ms → SepB false (ts ++ ms)
def SepsOf (go : List Nd → Option (List Nd)) (tf : List Nd → List ByteArray × List Nd) : Prop := ∀ l r, go l = some r → SepOf (tf l).1 ∧ (tf l).2 = r
theorem kids_sep {go : List Nd → Option (List Nd)} {tf : List Nd → List ByteArray × List Nd} (hg : SepsOf go tf) : ∀ (m : Nat) (ls : List ByteArray) (l r : List Nd), kidsBy go (m + 1) ls l = some r → SepOf (joinT (casesT tf (m + 1) l).1) ∧ (casesT tf (m + 1) l).1 ≠ [] := by
  have one : ∀ (c : Nd) (ts ms : List ByteArray), caseB c = true → SepOf ts → SepB true ms → SepB false ((tokC c ++ ts) ++ ms) := fun c ts ms hc ht hm => by
    simp only [caseB, Bool.and_eq_true, beq_iff_eq] at hc
    rw [List.append_assoc]
    show SepB false (c.name :: ba [40] :: sortT c.sort :: ba [41] :: ba [46] :: (ts ++ ms))
    exact .inr ⟨rfl, word_T hc.1.2, .inl ⟨sign_T _ (by decide) (by decide), .inr ⟨rfl, sort_T _, .inl ⟨sign_T _ (by decide) (by decide), .inl ⟨sign_T _ (by decide) (by decide), ht ms hm⟩⟩⟩⟩⟩
  intro m
  induction m with
  | zero =>
    intro ls l r h
    cases l with
    | nil => cases h
    | cons c l =>
      rw [kidsBy] at h
      split at h
      · rename_i hc
        simp only [Bool.and_eq_true] at hc
        split at h
        · cases h
        · rename_i r' hr'
          rw [casesT, casesT]
          exact ⟨fun ms hm => one c _ ms hc.1 (hg _ _ hr').1 hm, by simp⟩
      · cases h
  | succ m ih =>
    intro ls l r h
    cases l with
    | nil => cases h
    | cons c l =>
      rw [kidsBy] at h
      split at h
      · rename_i hc
        simp only [Bool.and_eq_true] at hc
        split at h
        · cases h
        · rename_i r' hr'
          obtain ⟨e1, e2⟩ := hg _ _ hr'
          obtain ⟨k1, k2⟩ := ih _ _ _ h
          rw [casesT, e2]
          refine ⟨fun ms hm => ?_, by simp⟩
          dsimp only
          cases hcs : (casesT tf (m + 1) r').1 with
          | nil => exact absurd hcs k2
          | cons u us =>
            rw [joinT, ← hcs, List.append_assoc]
            exact one c _ _ hc.1 e1 (.inl ⟨sign_T _ (by decide) (by decide), k1 ms hm⟩)
      · cases h
theorem ahead_sep (part : Bool) : ∀ (f : Nat) (st : List Nd), StWord st → SepsOf (ahead (talkS part) f st) (tokF f) := by
  have hend : SepOf [ba [101, 110, 100]] := fun ms hm => .inr ⟨rfl, lit_T (by simp) (by decide), hm⟩
  intro f
  induction f with
  | zero =>
    intro st hw l r h
    have h2 := (ahead_reads part 0 st hw l r h).1
    refine ⟨?_, h2⟩
    cases l with
    | nil => cases h
    | cons n l =>
      rw [ahead] at h
      split at h
      · rename_i h0
        rw [beq_iff_eq] at h0
        rw [tokF, if_neg (by rw [beq_iff_eq]; omega)]
        exact hend
      · split at h
        · rename_i h1
          split at h
          · rename_i hv
            simp only [Bool.and_eq_true] at hv
            rw [tokF, if_pos h1]
            exact fun ms hm => .inr ⟨rfl, word_T (back_word st false n.name hw hv.2), hm⟩
          · cases h
        · cases h
  | succ f ih =>
    intro st hw l r h
    have h2 := (ahead_reads part (f + 1) st hw l r h).1
    refine ⟨?_, h2⟩
    cases l with
    | nil => cases h
    | cons n l =>
      rw [ahead] at h
      split at h
      · rename_i h0
        rw [tokF, if_pos h0]
        exact hend
      · rename_i h0
        split at h
        · rename_i h1
          split at h
          · rename_i hv
            simp only [Bool.and_eq_true] at hv
            rw [tokF, if_neg h0, if_pos h1]
            exact fun ms hm => .inr ⟨rfl, word_T (back_word st false n.name hw hv.2), hm⟩
          · cases h
        · rename_i h1
          split at h
          · rename_i h2
            split at h
            · rename_i hv
              simp only [Bool.and_eq_true] at hv
              obtain ⟨e, hwd⟩ := rec_is hv.1
              obtain ⟨e1, -⟩ := ih (n :: st) (fun x hx ho => by rcases List.mem_cons.1 hx with rfl | hx; exact hwd; exact hw x hx ho) _ _ h
              rw [tokF, if_neg h0, if_neg h1, if_pos h2]
              rw [beq_iff_eq] at h2
              have et : tokS n = [ba [114, 101, 99], ba [32], n.name, ba [46]] := by unfold tokS; rw [if_neg (by omega), if_neg (by omega), if_pos h2]
              rw [et]
              exact fun ms hm => .inr ⟨rfl, lit_T (by simp) (by decide), .inl ⟨sign_T _ (by decide) (by decide), .inr ⟨rfl, word_T hwd, .inl ⟨sign_T _ (by decide) (by decide), e1 ms hm⟩⟩⟩⟩
            · cases h
          · rename_i h2
            split at h
            · rename_i hT
              obtain ⟨t1, ⟨m, t2⟩, t3, t4⟩ := talk_is hT
              have hm : n.many.toNat = m + 1 := by omega
              rw [hm] at h
              rw [beq_iff_eq] at h2
              obtain ⟨k1, -⟩ := kids_sep (ih (n :: st) (fun x hx ho => by rcases List.mem_cons.1 hx with rfl | hx; exact absurd ho h2; exact hw x hx ho)) m [] l r h
              rw [tokF, if_neg h0, if_neg h1, if_neg (by rw [beq_iff_eq]; exact h2), hm]
              intro ms hms
              dsimp only
              rw [List.append_assoc, List.append_assoc]
              have hin : SepB false (joinT (casesT (tokF f) (m + 1) l).1 ++ ([ba [125]] ++ ms)) := k1 _ (.inl ⟨sign_T _ (by decide) (by decide), sep_mono hms⟩)
              rcases t4 with ⟨a, b⟩ | ⟨a, b, c⟩ | ⟨a, b, c⟩
              · have e : tokS n = [n.name, ba [62], n.peer, ba [123]] := by unfold tokS; rw [if_neg (by omega), if_neg (by omega), if_neg (by omega), if_neg (by omega), if_neg (by omega)]
                rw [e]
                exact .inr ⟨rfl, word_T b, .inl ⟨sign_T _ (by decide) (by decide), .inr ⟨rfl, word_T t3, .inl ⟨sign_T _ (by decide) (by decide), hin⟩⟩⟩⟩
              · have e : tokS n = [n.peer, ba [33], ba [123]] := by unfold tokS; rw [if_neg (by omega), if_neg (by omega), if_neg (by omega), if_pos a]
                rw [e]
                exact .inr ⟨rfl, word_T t3, .inl ⟨sign_T _ (by decide) (by decide), .inl ⟨sign_T _ (by decide) (by decide), hin⟩⟩⟩
              · have e : tokS n = [n.peer, ba [63], ba [123]] := by unfold tokS; rw [if_neg (by omega), if_neg (by omega), if_neg (by omega), if_neg (by omega), if_pos a]
                rw [e]
                exact .inr ⟨rfl, word_T t3, .inl ⟨sign_T _ (by decide) (by decide), .inl ⟨sign_T _ (by decide) (by decide), hin⟩⟩⟩
            · cases h
/-- the text of a right row has the row's marks, all of ASCII -/
theorem text_marks {part : Bool} {ns : List Nd} (h : rightB part ns = true) : mkF (textF 10 ns).1.toList = (tokF 10 ns).1 ∧ (textF 10 ns).1 = catT (tokF 10 ns).1 ∧ ∀ x ∈ (tokF 10 ns).1, ∀ c ∈ x.toList, c.toNat < 128 := by
  have h' := h
  simp only [rightB, Bool.and_eq_true, beq_iff_eq] at h
  have h1 := h.2.1
  cases ha : ahead (talkS part) 10 [] ns with
  | none => rw [ha] at h1; cases h1
  | some r =>
    obtain ⟨e1, e2⟩ := ahead_sep part 10 [] (fun n hn => by cases hn) _ _ ha
    have hs := e1 [] trivial
    rw [List.append_nil] at hs
    have et : (textF 10 ns).1 = catT (tokF 10 ns).1 := by rw [tok_text]
    refine ⟨?_, et, sep_ascii _ _ hs⟩
    rw [et, cat_flat, mkF, sep_marks _ false [] [] hs (fun _ => rfl)]
    rfl
end Go.Proofs.YtolbcoginmaboaaDoor
